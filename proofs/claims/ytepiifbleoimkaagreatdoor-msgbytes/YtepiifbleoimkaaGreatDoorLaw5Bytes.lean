/-
  Layer 5's MsgBytes: whatever bytes, it answers true and leaves what was there.
-/
import Derived.Test.YtepiifbleoimkaaGreatDoorRefDecE
namespace Go.Proofs.YtepiifbleoimkaaGreatDoor
open Go.RowKit
set_option maxRecDepth 100000

/-- What is one has just those bytes. -/
theorem decM_has {bs : List UInt8} {t tag : Nat} {fs : List F} (h : decM bs = some (t, tag, fs)) :
    ∃ l, namedOf t = some l ∧ bs = msgB t tag fs ∧ fErrL fs = 0 ∧ t < 256 ∧ tag < 65536 := by
  unfold decM at h
  obtain ⟨⟨t', r1⟩, h1, h⟩ := Option.bind_eq_some_iff.1 h
  obtain ⟨⟨tag', r2⟩, h2, h⟩ := Option.bind_eq_some_iff.1 h
  obtain ⟨l, hl, h⟩ := Option.bind_eq_some_iff.1 h
  obtain ⟨⟨fs', r3⟩, h3, h⟩ := Option.bind_eq_some_iff.1 h
  simp only at h h2 hl h3
  split at h
  · rename_i hr
    injection h with h
    injection h with ha h
    injection h with hb hc
    subst ha hb hc hr
    obtain ⟨e1, l1⟩ := tkN_some (by omega) (by omega) h1
    obtain ⟨e2, l2⟩ := tkN_some (by omega) (by omega) h2
    obtain ⟨hstd, _⟩ := named_std hl
    obtain ⟨e3, _, z3, _⟩ := tkL_some _ _ _ _ (fun k hk => by obtain ⟨p, hp, rfl⟩ := List.mem_map.1 hk; exact (hstd p hp).2.1) h3
    refine ⟨l, hl, ?_, z3, l1, l2⟩
    rw [List.append_nil] at e3
    rw [msgB, ← e3, ← e2]
    exact e1
  · cases h
theorem qs_few5 {m : Nat → F} (h : (m 12).kind = .qids) (hf : (m 12).Few) : (m 12).qs.length ≤ 1000 := by
  rw [is_qids h] at hf
  exact hf
/-- What a walk keeps of the bytes that came in, and of the two messages that were read of them. -/
structure KS (w W : World) (gm gx lo hi lx hx : Nat) (cm cx : Array Value) (mm mx : Nat → F) (v : Value) (bs : List UInt8) : Prop where
  low : Below w.heap.size w W
  rm : Has W gm 34 cm
  rx : Has W gx 43 cx
  mm : MgAt W lo hi cm mm
  mx : RMgAt W lx hx cx mx
  hh : hi ≤ W.heap.size
  hhx : hx ≤ W.heap.size
  sl : SlIs W 0 w.heap.size v bs
theorem KS.next {w W W2 : World} {gm gx lo hi lx hx : Nat} {cm cx : Array Value} {mm mx : Nat → F} {v : Value} {bs : List UInt8} (k : KS w W gm gx lo hi lx hx cm cx mm mx v bs) (b : Below W.heap.size W W2) : KS w W2 gm gx lo hi lx hx cm cx mm mx v bs :=
  ⟨k.low.trans (b.mono k.low.size), k.rm.only (Below.onlyNew b) (fun h => h), k.rx.only (Below.onlyNew b) (fun h => h), k.mm.keep ((Below.onlyNew b).keeps k.hh (fun _ _ _ h => h)), k.mx.keep ((Below.onlyNew b).keeps k.hhx (fun _ _ _ h => h)), Nat.le_trans k.hh b.size, Nat.le_trans k.hhx b.size, k.sl.keep ((Below.onlyNew b).keeps k.low.size (fun _ _ _ h => h))⟩
theorem KS.held {w W : World} {gm gx lo hi lx hx : Nat} {cm cx : Array Value} {mm mx : Nat → F} {v : Value} {bs : List UInt8} (k : KS w W gm gx lo hi lx hx cm cx mm mx v bs) : Has W gm 34 cm ∧ Has W gx 43 cx := ⟨k.rm, k.rx⟩
theorem below_drew (w : World) : Below w.heap.size w w.drew := ⟨rfl, rfl, rfl, Nat.le_refl _, fun _ _ => rfl⟩

set_option maxHeartbeats 1000000 in
theorem bytes5_early (A : Option Addr) (n c : Nat) (w : World) (hT : Tabs w) (hn : 2000 < n) : Calls Tryz.prog 3 #[.slice A n c] w fun e w' => e = .returned (.bool true) ∧ Below w.heap.size w w' := by
  have C0 := Lib.hid (known5 w hT)
  have hd : (2000 : Int) < (n : Int) := by omega
  clear hT
  go_enter Tryz.func3, Tryz.ntmps3
  go_wp2_with fail
  refine C0.out.mono ?_
  rintro e w1 ⟨rfl, b1⟩
  have R := Lib.hid b1
  clear b1 C0
  go_wp2
  go_ret
  exact ⟨rfl, R.out⟩

set_option maxHeartbeats 4000000 in
theorem bytes5_walk (A : Option Addr) (c : Nat) (bs : List UInt8) (w : World) (hT : Tabs w) (hv : SlIs w 0 w.heap.size (.slice A bs.length c) bs) (hb : bs.length ≤ 2000) :
    Calls Tryz.prog 3 #[.slice A bs.length c] w fun e w' => e = .returned (.bool true) ∧ Below w.heap.size w w' := by
  have C0 := Lib.hid (known5 w hT)
  have hd : ¬ (2000 : Int) < (bs.length : Int) := by omega
  have HT := Lib.hid hT
  have HV := Lib.hid hv
  clear hT hv
  go_enter Tryz.func3, Tryz.ntmps3
  go_wp2_with fail
  refine C0.out.mono ?_
  rintro e w1 ⟨rfl, b1⟩
  have sl1 := HV.out.keep ((Below.onlyNew b1).keeps (Nat.le_refl _) (fun _ _ _ h => h))
  have hs1 := b1.size
  have CD := Lib.hid (decode5_any (.slice A bs.length c) bs 0 w.heap.size w1 sl1 hs1 (by omega) (HT.out.below b1))
  have B1 := Lib.hid b1
  have SL1 := Lib.hid sl1
  clear C0 b1 sl1 HV
  go_wp2_with fail
  refine CD.out.mono ?_
  intro e w2 st
  clear CD
  cases hdec : decM bs with
  | none =>
    rw [hdec] at st
    obtain ⟨rfl, b2⟩ := st
    obtain ⟨n3, kn3⟩ := new_setRow (w := w2) (t := 34) (cs := zeroCells 0 0) (old := zeroCells 0 0)
    obtain ⟨W3, hW3⟩ : ∃ W, W = (w2.alloc (.cells (zeroCells 0 0) 34)).setRow w2.heap.size (zeroCells 0 0) := ⟨_, rfl⟩
    rw [← hW3] at n3 kn3
    have HW3 : Hid ((w2.alloc (.cells #[.int .u8 0, .int .u16 0, .int .u32 0, .string ⟨#[]⟩, .int .u32 0, .int .u32 0, .int .u32 0, .string ⟨#[]⟩, .string ⟨#[]⟩, .string ⟨#[]⟩, .int .u16 0, .slice none 0 0, .slice none 0 0, .int .u8 0, .int .u32 0, .int .u64 0, .int .u32 0, .int .u8 0, .int .u32 0, .string ⟨#[]⟩, .int .u64 0, .int .u32 0, .slice none 0 0, .int .u16 0, .int .u32 0, .int .u8 0, .int .u32 0, .int .u64 0, .int .u32 0, .int .u32 0, .int .u32 0, .int .u64 0, .string ⟨#[]⟩, .string ⟨#[]⟩, .string ⟨#[]⟩, .string ⟨#[]⟩] 34)).setRow w2.heap.size (zeroCells 0 0) = W3) := hW3.symm
    have b3 : Below w.heap.size w W3 := (B1.out.trans (b2.mono hs1)).trans (kn3.below (by have := b2.size; omega) (fun _ _ h => h))
    have s3 := b3.size
    have sl3 := (SL1.out.keep ((Below.onlyNew b2).keeps hs1 (fun _ _ _ h => h))).keep (kn3.keeps (by have := b2.size; omega) (fun _ _ _ h => h))
    have CR := rdecode_any (.slice A bs.length c) bs W3 (sl3.wider (Nat.le_refl _) s3) (by omega)
    rw [hdec] at CR
    have CR := Lib.hid CR
    obtain ⟨gm, hgm⟩ : ∃ g, g = w2.heap.size := ⟨_, rfl⟩
    rw [← hgm] at n3
    have N3 := Lib.hid n3
    have B3 := Lib.hid b3
    clear b2 kn3 hW3 n3 b3 sl3 B1 SL1 HT
    go_wp2_with (first
      | (refine store_struct Tryz.msgSize w2.heap.size (zeroCells 0 0) (.tmp 3) (.tmp 17) rfl rfl rfl rfl (Has.new w2 34 (zeroCells 0 0)) rfl rfl (zero_one 0 0) ?_)
      | fail)
    refine (show Calls Tryz.prog 6 _ ((w2.alloc (.cells #[.int .u8 0, .int .u16 0, .int .u32 0, .string ⟨#[]⟩, .int .u32 0, .int .u32 0, .int .u32 0, .string ⟨#[]⟩, .string ⟨#[]⟩, .string ⟨#[]⟩, .int .u16 0, .slice none 0 0, .slice none 0 0, .int .u8 0, .int .u32 0, .int .u64 0, .int .u32 0, .int .u8 0, .int .u32 0, .string ⟨#[]⟩, .int .u64 0, .int .u32 0, .slice none 0 0, .int .u16 0, .int .u32 0, .int .u8 0, .int .u32 0, .int .u64 0, .int .u32 0, .int .u32 0, .int .u32 0, .int .u64 0, .string ⟨#[]⟩, .string ⟨#[]⟩, .string ⟨#[]⟩, .string ⟨#[]⟩] 34)).setRow w2.heap.size (zeroCells 0 0)) _ from ?_)
    rw [HW3.out, ← hgm]
    clear HW3 hgm
    refine CR.out.mono ?_
    rintro e w4 ⟨rfl, b4⟩
    obtain ⟨n5, kn5⟩ := new_setRow (w := w4) (t := 43) (cs := RZ) (old := RZ)
    obtain ⟨W5, hW5⟩ : ∃ W, W = (w4.alloc (.cells RZ 43)).setRow w4.heap.size RZ := ⟨_, rfl⟩
    rw [← hW5] at n5 kn5
    have HW5 : Hid ((w4.alloc (.cells #[.int .u8 0, .int .u16 0, .int .u32 0, .string ⟨#[]⟩, .int .u32 0, .int .u32 0, .int .u32 0, .string ⟨#[]⟩, .string ⟨#[]⟩, .string ⟨#[]⟩, .int .u16 0, .slice none 0 0, .slice none 0 0, .int .u8 0, .int .u32 0, .int .u64 0, .int .u32 0, .int .u8 0, .int .u32 0, .string ⟨#[]⟩, .int .u64 0, .int .u32 0, .string ⟨#[]⟩, .int .u16 0, .int .u32 0, .int .u8 0, .int .u32 0, .int .u64 0, .int .u32 0, .int .u32 0, .int .u32 0, .int .u64 0, .string ⟨#[]⟩, .string ⟨#[]⟩, .string ⟨#[]⟩, .string ⟨#[]⟩] 43)).setRow w4.heap.size RZ = W5) := hW5.symm
    obtain ⟨gx, hgx⟩ : ∃ g, g = w4.heap.size := ⟨_, rfl⟩
    rw [← hgx] at n5
    have k35 : Only (fun _ => False) W3 W5 := (Below.onlyNew b4).trans kn5 (fun _ _ h => h)
    have n35 := N3.out.only k35 (fun h => h)
    have HS : Hid (∀ w', Only (fun _ => False) W5 w' → Has w' gm 34 (zeroCells 0 0) ∧ Has w' gx 43 RZ) := Lib.hid (fun w' k => ⟨n35.only k (fun h => h), n5.only k (fun h => h)⟩)
    have KD : Hid (Only (fun _ => False) W5 W5.drew) := ⟨rfl, rfl, rfl, Nat.le_refl _, fun _ _ _ => rfl⟩
    have R : Hid (Below w.heap.size w W5.drew) := Lib.hid ((B3.out.trans (k35.below s3 (fun _ _ h => h))).trans ((below_drew W5).mono (Nat.le_trans s3 k35.size)))
    clear CR b4 n5 kn5 hW5 k35 n35 N3 B3
    go_upto_region 7 with (first
      | (refine store_struct Tryz.refMsgSize w4.heap.size RZ (.tmp 5) (.tmp 22) rfl rfl rfl rfl (Has.new w4 43 RZ) rfl rfl RZ_one ?_)
      | fail)
    refine (show Code.wp _ _ _ _ ((w4.alloc (.cells #[.int .u8 0, .int .u16 0, .int .u32 0, .string ⟨#[]⟩, .int .u32 0, .int .u32 0, .int .u32 0, .string ⟨#[]⟩, .string ⟨#[]⟩, .string ⟨#[]⟩, .int .u16 0, .slice none 0 0, .slice none 0 0, .int .u8 0, .int .u32 0, .int .u64 0, .int .u32 0, .int .u8 0, .int .u32 0, .string ⟨#[]⟩, .int .u64 0, .int .u32 0, .string ⟨#[]⟩, .int .u16 0, .int .u32 0, .int .u8 0, .int .u32 0, .int .u64 0, .int .u32 0, .int .u32 0, .int .u32 0, .int .u64 0, .string ⟨#[]⟩, .string ⟨#[]⟩, .string ⟨#[]⟩, .string ⟨#[]⟩] 43)).setRow w4.heap.size RZ) from ?_)
    rw [HW5.out, ← hgx]
    clear HW5 hgx
    refine wp_region_held_drew (S := fun w' => Has w' gm 34 (zeroCells 0 0) ∧ Has w' gx 43 RZ) (by kernel_rfl) ?_ (fun hHeld => ?_)
    · exact HS.out _ KD.out
    refine takeH (i := 0) (d := 24) (v := ?_) (by kernel_rfl) (by kernel_rfl) (by kernel_rfl) rfl (fun _ _ _ h => h) (by rfl) ?_ hHeld ?_
    rotate_left
    · intro o ho w hSw
      obtain ⟨s1, s2⟩ := hSw
      cases ho
      go_simp
      try with_reducible rfl
    simp only [Act.put, List.setIfInBounds_toArray, List.set_cons_zero, List.set_cons_succ]
    refine takeH (i := 1) (d := 25) (v := ?_) (by kernel_rfl) (by kernel_rfl) (by kernel_rfl) rfl (fun _ _ _ h => h) (by rfl) ?_ hHeld ?_
    rotate_left
    · intro o ho w hSw
      obtain ⟨s1, s2⟩ := hSw
      cases ho
      go_simp
      try with_reducible rfl
    simp only [Act.put, List.setIfInBounds_toArray, List.set_cons_zero, List.set_cons_succ]
    refine takeH (i := 2) (d := 26) (v := ?_) (by kernel_rfl) (by kernel_rfl) (by kernel_rfl) rfl (fun _ _ _ h => h) (by rfl) ?_ hHeld ?_
    rotate_left
    · intro o ho w hSw
      obtain ⟨s1, s2⟩ := hSw
      cases ho
      go_simp
      try with_reducible rfl
    simp only [Act.put, List.setIfInBounds_toArray, List.set_cons_zero, List.set_cons_succ]
    refine takeH (i := 3) (d := 27) (v := ?_) (by kernel_rfl) (by kernel_rfl) (by kernel_rfl) rfl (fun _ _ _ h => h) (by rfl) ?_ hHeld ?_
    rotate_left
    · intro o ho w hSw
      obtain ⟨s1, s2⟩ := hSw
      cases ho
      go_simp
      try with_reducible rfl
    simp only [Act.put, List.setIfInBounds_toArray, List.set_cons_zero, List.set_cons_succ]
    refine takeH (i := 4) (d := 28) (v := ?_) (by kernel_rfl) (by kernel_rfl) (by kernel_rfl) rfl (fun _ _ _ h => h) (by rfl) ?_ hHeld ?_
    rotate_left
    · intro o ho w hSw
      obtain ⟨s1, s2⟩ := hSw
      cases ho
      go_simp
      try with_reducible rfl
    simp only [Act.put, List.setIfInBounds_toArray, List.set_cons_zero, List.set_cons_succ]
    refine takeH (i := 5) (d := 29) (v := ?_) (by kernel_rfl) (by kernel_rfl) (by kernel_rfl) rfl (fun _ _ _ h => h) (by rfl) ?_ hHeld ?_
    rotate_left
    · intro o ho w hSw
      obtain ⟨s1, s2⟩ := hSw
      cases ho
      go_simp
      try with_reducible rfl
    simp only [Act.put, List.setIfInBounds_toArray, List.set_cons_zero, List.set_cons_succ]
    refine takeH (i := 6) (d := 30) (v := ?_) (by kernel_rfl) (by kernel_rfl) (by kernel_rfl) rfl (fun _ _ _ h => h) (by rfl) ?_ hHeld ?_
    rotate_left
    · intro o ho w hSw
      obtain ⟨s1, s2⟩ := hSw
      cases ho
      go_simp
      try with_reducible rfl
    simp only [Act.put, List.setIfInBounds_toArray, List.set_cons_zero, List.set_cons_succ]
    refine skipH (i := 7) (d := 31) (by kernel_rfl) (by kernel_rfl) (by kernel_rfl) rfl (fun _ _ _ h => h) (by rfl) hHeld ?_
    simp only [Act.put, List.setIfInBounds_toArray, List.set_cons_zero, List.set_cons_succ]
    refine skipH (i := 8) (d := 32) (by kernel_rfl) (by kernel_rfl) (by kernel_rfl) rfl (fun _ _ _ h => h) (by rfl) hHeld ?_
    simp only [Act.put, List.setIfInBounds_toArray, List.set_cons_zero, List.set_cons_succ]
    refine skipH (i := 9) (d := 33) (by kernel_rfl) (by kernel_rfl) (by kernel_rfl) rfl (fun _ _ _ h => h) (by rfl) hHeld ?_
    simp only [Act.put, List.setIfInBounds_toArray, List.set_cons_zero, List.set_cons_succ]
    refine skipH (i := 10) (d := 34) (by kernel_rfl) (by kernel_rfl) (by kernel_rfl) rfl (fun _ _ _ h => h) (by rfl) hHeld ?_
    simp only [Act.put, List.setIfInBounds_toArray, List.set_cons_zero, List.set_cons_succ]
    refine skipH (i := 11) (d := 35) (by kernel_rfl) (by kernel_rfl) (by kernel_rfl) rfl (fun _ _ _ h => h) (by rfl) hHeld ?_
    simp only [Act.put, List.setIfInBounds_toArray, List.set_cons_zero, List.set_cons_succ]
    refine takeH (i := 12) (d := 36) (v := ?_) (by kernel_rfl) (by kernel_rfl) (by kernel_rfl) rfl (fun _ _ _ h => h) (by rfl) ?_ hHeld ?_
    rotate_left
    · intro o ho w hSw
      obtain ⟨s1, s2⟩ := hSw
      cases ho
      go_simp
      try with_reducible rfl
    simp only [Act.put, List.setIfInBounds_toArray, List.set_cons_zero, List.set_cons_succ]
    refine takeH (i := 13) (d := 37) (v := ?_) (by kernel_rfl) (by kernel_rfl) (by kernel_rfl) rfl (fun _ _ _ h => h) (by rfl) ?_ hHeld ?_
    rotate_left
    · intro o ho w hSw
      obtain ⟨s1, s2⟩ := hSw
      cases ho
      go_simp
      try with_reducible rfl
    simp only [Act.put, List.setIfInBounds_toArray, List.set_cons_zero, List.set_cons_succ]
    refine takeH (i := 14) (d := 38) (v := ?_) (by kernel_rfl) (by kernel_rfl) (by kernel_rfl) rfl (fun _ _ _ h => h) (by rfl) ?_ hHeld ?_
    rotate_left
    · intro o ho w hSw
      obtain ⟨s1, s2⟩ := hSw
      cases ho
      go_simp
      try with_reducible rfl
    simp only [Act.put, List.setIfInBounds_toArray, List.set_cons_zero, List.set_cons_succ]
    refine takeH (i := 15) (d := 39) (v := ?_) (by kernel_rfl) (by kernel_rfl) (by kernel_rfl) rfl (fun _ _ _ h => h) (by rfl) ?_ hHeld ?_
    rotate_left
    · intro o ho w hSw
      obtain ⟨s1, s2⟩ := hSw
      cases ho
      go_simp
      try with_reducible rfl
    simp only [Act.put, List.setIfInBounds_toArray, List.set_cons_zero, List.set_cons_succ]
    refine takeH (i := 16) (d := 40) (v := ?_) (by kernel_rfl) (by kernel_rfl) (by kernel_rfl) rfl (fun _ _ _ h => h) (by rfl) ?_ hHeld ?_
    rotate_left
    · intro o ho w hSw
      obtain ⟨s1, s2⟩ := hSw
      cases ho
      go_simp
      try with_reducible rfl
    simp only [Act.put, List.setIfInBounds_toArray, List.set_cons_zero, List.set_cons_succ]
    refine takeH (i := 17) (d := 41) (v := ?_) (by kernel_rfl) (by kernel_rfl) (by kernel_rfl) rfl (fun _ _ _ h => h) (by rfl) ?_ hHeld ?_
    rotate_left
    · intro o ho w hSw
      obtain ⟨s1, s2⟩ := hSw
      cases ho
      go_simp
      try with_reducible rfl
    simp only [Act.put, List.setIfInBounds_toArray, List.set_cons_zero, List.set_cons_succ]
    refine takeH (i := 18) (d := 42) (v := ?_) (by kernel_rfl) (by kernel_rfl) (by kernel_rfl) rfl (fun _ _ _ h => h) (by rfl) ?_ hHeld ?_
    rotate_left
    · intro o ho w hSw
      obtain ⟨s1, s2⟩ := hSw
      cases ho
      go_simp
      try with_reducible rfl
    simp only [Act.put, List.setIfInBounds_toArray, List.set_cons_zero, List.set_cons_succ]
    refine takeH (i := 19) (d := 43) (v := .int .u8 0) (by kernel_rfl) (by kernel_rfl) (by kernel_rfl) rfl (fun _ _ _ h => h) (by rfl) ?_ hHeld ?_
    · intro o ho w hSw
      have c : w.cell? ⟨gm, 0, none⟩ = some (.int .u8 0) := hSw.1.cell 0
      cases ho
      go_simp
    simp only [Act.put, List.setIfInBounds_toArray, List.set_cons_zero, List.set_cons_succ]
    refine takeH (i := 20) (d := 44) (v := ?_) (by kernel_rfl) (by kernel_rfl) (by kernel_rfl) rfl (fun _ _ _ h => h) (by rfl) ?_ hHeld ?_
    rotate_left
    · intro o ho w hSw
      obtain ⟨s1, s2⟩ := hSw
      cases ho
      go_simp
      try with_reducible rfl
    simp only [Act.put, List.setIfInBounds_toArray, List.set_cons_zero, List.set_cons_succ]
    refine takeH (i := 21) (d := 45) (v := ?_) (by kernel_rfl) (by kernel_rfl) (by kernel_rfl) rfl (fun _ _ _ h => h) (by rfl) ?_ hHeld ?_
    rotate_left
    · intro o ho w hSw
      obtain ⟨s1, s2⟩ := hSw
      cases ho
      go_simp
      try with_reducible rfl
    simp only [Act.put, List.setIfInBounds_toArray, List.set_cons_zero, List.set_cons_succ]
    refine takeH (i := 22) (d := 46) (v := ?_) (by kernel_rfl) (by kernel_rfl) (by kernel_rfl) rfl (fun _ _ _ h => h) (by rfl) ?_ hHeld ?_
    rotate_left
    · intro o ho w hSw
      obtain ⟨s1, s2⟩ := hSw
      cases ho
      go_simp
      try with_reducible rfl
    simp only [Act.put, List.setIfInBounds_toArray, List.set_cons_zero, List.set_cons_succ]
    refine wpAnyH_done (by kernel_rfl) ?_ _
    clear HS KD hHeld
    go_wp2
    go_ret
    exact ⟨rfl, R.out⟩
  | some p =>
    obtain ⟨t, tag, fs⟩ := p
    rw [hdec] at st
    obtain ⟨cm, rfl, mi, b2⟩ := st
    obtain ⟨l, hl, hbs, hz, ht, htag⟩ := decM_has hdec
    obtain ⟨zm, om⟩ := mi.size
    obtain ⟨mm, l', g1, g2, g3, g4, g5, g6⟩ := mi
    have hll : l' = l := by rw [hl] at g4; injection g4 with h; exact h.symm
    subst hll
    have hnm : named t = l' := by rw [named, hl]; rfl
    have hty : isType t := isType_named hl
    obtain ⟨n3, kn3⟩ := new_setRow (w := w2) (t := 34) (cs := cm) (old := zeroCells 0 0)
    obtain ⟨W3, hW3⟩ : ∃ W, W = (w2.alloc (.cells (zeroCells 0 0) 34)).setRow w2.heap.size cm := ⟨_, rfl⟩
    rw [← hW3] at n3 kn3
    have HW3 : Hid ((w2.alloc (.cells #[.int .u8 0, .int .u16 0, .int .u32 0, .string ⟨#[]⟩, .int .u32 0, .int .u32 0, .int .u32 0, .string ⟨#[]⟩, .string ⟨#[]⟩, .string ⟨#[]⟩, .int .u16 0, .slice none 0 0, .slice none 0 0, .int .u8 0, .int .u32 0, .int .u64 0, .int .u32 0, .int .u8 0, .int .u32 0, .string ⟨#[]⟩, .int .u64 0, .int .u32 0, .slice none 0 0, .int .u16 0, .int .u32 0, .int .u8 0, .int .u32 0, .int .u64 0, .int .u32 0, .int .u32 0, .int .u32 0, .int .u64 0, .string ⟨#[]⟩, .string ⟨#[]⟩, .string ⟨#[]⟩, .string ⟨#[]⟩] 34)).setRow w2.heap.size cm = W3) := hW3.symm
    have s2 := b2.size
    have b3 : Below w.heap.size w W3 := (B1.out.trans (b2.mono hs1)).trans (kn3.below (by omega) (fun _ _ h => h))
    have s3 := b3.size
    have sl3 := (SL1.out.keep ((Below.onlyNew b2).keeps hs1 (fun _ _ _ h => h))).keep (kn3.keeps (by omega) (fun _ _ _ h => h))
    have CR := rdecode_any (.slice A bs.length c) bs W3 (sl3.wider (Nat.le_refl _) s3) (by omega)
    rw [hdec] at CR
    have CR := Lib.hid CR
    have s23 := kn3.size
    have G3 := Lib.hid (g1.keep (kn3.keeps (Nat.le_refl _) (fun _ _ _ h => h)))
    obtain ⟨gm, hgm⟩ : ∃ g, g = w2.heap.size := ⟨_, rfl⟩
    rw [← hgm] at n3
    have N3 := Lib.hid n3
    have B3 := Lib.hid b3
    have SL3 := Lib.hid sl3
    have HZm := Lib.hid zm
    have HOm1 := Lib.hid om
    have G2 := Lib.hid g2
    have GT := Lib.hid g3
    have G5 := Lib.hid g5
    have GO := Lib.hid g6
    have HBS := Lib.hid hbs
    have HNM := Lib.hid hnm
    have HLN := Lib.hid hl
    have HENC : Hid (encErr t fs = 0) := Lib.hid (by rw [encErr, if_pos hty, hz])
    clear b2 kn3 hW3 n3 b3 sl3 B1 SL1 zm om g1 g2 g3 g4 g5 g6 hbs hnm hl hz hdec
    go_wp2_with (first
      | (refine store_struct Tryz.msgSize w2.heap.size cm (.tmp 3) (.tmp 17) rfl rfl rfl rfl (Has.new w2 34 (zeroCells 0 0)) rfl HZm.out HOm1.out ?_)
      | fail)
    refine (show Calls Tryz.prog 6 _ ((w2.alloc (.cells #[.int .u8 0, .int .u16 0, .int .u32 0, .string ⟨#[]⟩, .int .u32 0, .int .u32 0, .int .u32 0, .string ⟨#[]⟩, .string ⟨#[]⟩, .string ⟨#[]⟩, .int .u16 0, .slice none 0 0, .slice none 0 0, .int .u8 0, .int .u32 0, .int .u64 0, .int .u32 0, .int .u8 0, .int .u32 0, .string ⟨#[]⟩, .int .u64 0, .int .u32 0, .slice none 0 0, .int .u16 0, .int .u32 0, .int .u8 0, .int .u32 0, .int .u64 0, .int .u32 0, .int .u32 0, .int .u32 0, .int .u64 0, .string ⟨#[]⟩, .string ⟨#[]⟩, .string ⟨#[]⟩, .string ⟨#[]⟩] 34)).setRow w2.heap.size cm) _ from ?_)
    rw [HW3.out, ← hgm]
    clear HW3 hgm
    refine CR.out.mono ?_
    rintro e w4 ⟨cx, mx, rfl, x1, x2, x3, x4, x5, b4⟩
    obtain ⟨n5, kn5⟩ := new_setRow (w := w4) (t := 43) (cs := cx) (old := RZ)
    obtain ⟨W5, hW5⟩ : ∃ W, W = (w4.alloc (.cells RZ 43)).setRow w4.heap.size cx := ⟨_, rfl⟩
    rw [← hW5] at n5 kn5
    have HW5 : Hid ((w4.alloc (.cells #[.int .u8 0, .int .u16 0, .int .u32 0, .string ⟨#[]⟩, .int .u32 0, .int .u32 0, .int .u32 0, .string ⟨#[]⟩, .string ⟨#[]⟩, .string ⟨#[]⟩, .int .u16 0, .slice none 0 0, .slice none 0 0, .int .u8 0, .int .u32 0, .int .u64 0, .int .u32 0, .int .u8 0, .int .u32 0, .string ⟨#[]⟩, .int .u64 0, .int .u32 0, .string ⟨#[]⟩, .int .u16 0, .int .u32 0, .int .u8 0, .int .u32 0, .int .u64 0, .int .u32 0, .int .u32 0, .int .u32 0, .int .u64 0, .string ⟨#[]⟩, .string ⟨#[]⟩, .string ⟨#[]⟩, .string ⟨#[]⟩] 43)).setRow w4.heap.size cx = W5) := hW5.symm
    obtain ⟨gx, hgx⟩ : ∃ g, g = w4.heap.size := ⟨_, rfl⟩
    rw [← hgx] at n5
    have k35 : Only (fun _ => False) W3 W5 := (Below.onlyNew b4).trans kn5 (fun _ _ h => h)
    have k5 : KS w W5 gm gx w1.heap.size w2.heap.size W3.heap.size w4.heap.size cm cx mm mx (.slice A bs.length c) bs :=
      ⟨B3.out.trans (k35.below s3 (fun _ _ h => h)), N3.out.only k35 (fun h => h), n5, G3.out.keep (k35.keeps s23 (fun _ _ _ h => h)), x1.keep (kn5.keeps (Nat.le_refl _) (fun _ _ _ h => h)), Nat.le_trans s23 k35.size, kn5.size, SL3.out.keep (k35.keeps s3 (fun _ _ _ h => h))⟩
    have KD := Lib.hid (k5.next (below_drew W5))
    have HZx := Lib.hid x1.size
    have HOx1 := Lib.hid x1.one
    have qm := qs_few5 (G3.out.kind (.qids, 12) (by decide)) (GO.out (.qids, 12) (by decide)).2
    have HOm := Lib.hid (fun W (k : KS w W gm gx w1.heap.size w2.heap.size W3.heap.size w4.heap.size cm cx mm mx (.slice A bs.length c) bs) => of5_any cm mm W (k.mm.wide (Nat.zero_le _) k.hh) qm)
    have HR := Lib.hid (fun (W : World) (oc : Array Value) (r : RMgAt W 0 W.heap.size oc mm) (k : KS w W gm gx w1.heap.size w2.heap.size W3.heap.size w4.heap.size cm cx mm mx (.slice A bs.length c) bs) => rsame_any t tag t tag oc cx mm mx W r (k.mx.wide (Nat.zero_le _) k.hhx) G2.out GT.out x2 x3 GO.out x5 hty)
    have HSM : Hid (sameM t tag t tag mm mx) := Lib.hid (same_named.2 (by rw [x4, HNM.out]; exact G5.out))
    have HE := Lib.hid (fun (W : World) (k : KS w W gm gx w1.heap.size w2.heap.size W3.heap.size w4.heap.size cm cx mm mx (.slice A bs.length c) bs) => encode5_any w1.heap.size w2.heap.size t tag cm fs W (by have := k.mm.lies (.num 1, 0) (by decide); simp only [G2.out] at this; exact this) (by have := k.mm.lies (.num 2, 1) (by decide); simp only [GT.out] at this; exact this)
      (fun l hl => by
        have e : l' = l := by have := HLN.out; rw [hl] at this; injection this with h; exact h.symm
        subst e
        rw [← G5.out]
        exact k.mm.fs hl (fun f hf => by
          obtain ⟨p, hp, rfl⟩ := List.mem_map.1 hf
          exact GO.out p ((named_mem hl).1 p hp))) ht htag (HT.out.below k.low) k.hh)
    clear CR b4 n5 kn5 hW5 k35 k5 N3 B3 SL3 G3 x1 x2 x3 x4 x5 qm G2 GT G5 GO HNM HLN HOm1
    go_upto_region 7 with (first
      | (refine store_struct Tryz.refMsgSize w4.heap.size cx (.tmp 5) (.tmp 22) rfl rfl rfl rfl (Has.new w4 43 RZ) rfl HZx.out HOx1.out ?_)
      | fail)
    refine (show Code.wp _ _ _ _ ((w4.alloc (.cells #[.int .u8 0, .int .u16 0, .int .u32 0, .string ⟨#[]⟩, .int .u32 0, .int .u32 0, .int .u32 0, .string ⟨#[]⟩, .string ⟨#[]⟩, .string ⟨#[]⟩, .int .u16 0, .slice none 0 0, .slice none 0 0, .int .u8 0, .int .u32 0, .int .u64 0, .int .u32 0, .int .u8 0, .int .u32 0, .string ⟨#[]⟩, .int .u64 0, .int .u32 0, .string ⟨#[]⟩, .int .u16 0, .int .u32 0, .int .u8 0, .int .u32 0, .int .u64 0, .int .u32 0, .int .u32 0, .int .u32 0, .int .u64 0, .string ⟨#[]⟩, .string ⟨#[]⟩, .string ⟨#[]⟩, .string ⟨#[]⟩] 43)).setRow w4.heap.size cx) from ?_)
    rw [HW5.out, ← hgx]
    clear HW5 hgx HOx1
    refine wp_region_held_drew (S := fun w' => Has w' gm 34 cm ∧ Has w' gx 43 cx) (by kernel_rfl) ?_ (fun hHeld => ?_)
    · exact KD.out.held
    refine takeH (i := 0) (d := 24) (v := ?_) (by kernel_rfl) (by kernel_rfl) (by kernel_rfl) rfl (fun _ _ _ h => h) (by rfl) ?_ hHeld ?_
    rotate_left
    · intro o ho w hSw
      obtain ⟨s1, s2⟩ := hSw
      cases ho
      go_simp
      try with_reducible rfl
    simp only [Act.put, List.setIfInBounds_toArray, List.set_cons_zero, List.set_cons_succ]
    refine takeH (i := 1) (d := 25) (v := ?_) (by kernel_rfl) (by kernel_rfl) (by kernel_rfl) rfl (fun _ _ _ h => h) (by rfl) ?_ hHeld ?_
    rotate_left
    · intro o ho w hSw
      obtain ⟨s1, s2⟩ := hSw
      cases ho
      go_simp
      try with_reducible rfl
    simp only [Act.put, List.setIfInBounds_toArray, List.set_cons_zero, List.set_cons_succ]
    refine takeH (i := 2) (d := 26) (v := ?_) (by kernel_rfl) (by kernel_rfl) (by kernel_rfl) rfl (fun _ _ _ h => h) (by rfl) ?_ hHeld ?_
    rotate_left
    · intro o ho w hSw
      obtain ⟨s1, s2⟩ := hSw
      cases ho
      go_simp
      try with_reducible rfl
    simp only [Act.put, List.setIfInBounds_toArray, List.set_cons_zero, List.set_cons_succ]
    refine takeH (i := 3) (d := 27) (v := ?_) (by kernel_rfl) (by kernel_rfl) (by kernel_rfl) rfl (fun _ _ _ h => h) (by rfl) ?_ hHeld ?_
    rotate_left
    · intro o ho w hSw
      obtain ⟨s1, s2⟩ := hSw
      cases ho
      go_simp
      try with_reducible rfl
    simp only [Act.put, List.setIfInBounds_toArray, List.set_cons_zero, List.set_cons_succ]
    refine takeH (i := 4) (d := 28) (v := ?_) (by kernel_rfl) (by kernel_rfl) (by kernel_rfl) rfl (fun _ _ _ h => h) (by rfl) ?_ hHeld ?_
    rotate_left
    · intro o ho w hSw
      obtain ⟨s1, s2⟩ := hSw
      cases ho
      go_simp
      try with_reducible rfl
    simp only [Act.put, List.setIfInBounds_toArray, List.set_cons_zero, List.set_cons_succ]
    refine takeH (i := 5) (d := 29) (v := ?_) (by kernel_rfl) (by kernel_rfl) (by kernel_rfl) rfl (fun _ _ _ h => h) (by rfl) ?_ hHeld ?_
    rotate_left
    · intro o ho w hSw
      obtain ⟨s1, s2⟩ := hSw
      cases ho
      go_simp
      try with_reducible rfl
    simp only [Act.put, List.setIfInBounds_toArray, List.set_cons_zero, List.set_cons_succ]
    refine takeH (i := 6) (d := 30) (v := ?_) (by kernel_rfl) (by kernel_rfl) (by kernel_rfl) rfl (fun _ _ _ h => h) (by rfl) ?_ hHeld ?_
    rotate_left
    · intro o ho w hSw
      obtain ⟨s1, s2⟩ := hSw
      cases ho
      go_simp
      try with_reducible rfl
    simp only [Act.put, List.setIfInBounds_toArray, List.set_cons_zero, List.set_cons_succ]
    refine takeH (i := 7) (d := 31) (v := .agg cm) (by kernel_rfl) (by kernel_rfl) (by kernel_rfl) rfl (fun _ _ _ h => h) (by rfl) ?_ hHeld ?_
    · intro o ho w hSw
      obtain ⟨s1, s2⟩ := hSw
      cases ho
      exact exec_load_row rfl rfl s1 Tryz.underlying34 rfl (by rw [HZm.out]; exact Tryz.msgSize)
    simp only [Act.put, List.setIfInBounds_toArray, List.set_cons_zero, List.set_cons_succ]
    refine takeH (i := 9) (d := 33) (v := .agg cx) (by kernel_rfl) (by kernel_rfl) (by kernel_rfl) rfl (fun _ _ _ h => h) (by rfl) ?_ hHeld ?_
    · intro o ho w hSw
      obtain ⟨s1, s2⟩ := hSw
      cases ho
      exact exec_load_row rfl rfl s2 Tryz.underlying43 rfl (by rw [HZx.out]; exact Tryz.refMsgSize)
    simp only [Act.put, List.setIfInBounds_toArray, List.set_cons_zero, List.set_cons_succ]
    refine wpAnyH_ready (rs := [8]) (by kernel_rfl) (by simp) ?_
    refine AllReadyH.cons rfl (fun K hK => ?_) AllReadyH.nil
    go_simp
    refine (HOm.out _ KD.out).mono ?_
    rintro e w6 ⟨oc, rfl, an6⟩
    have K6 := Lib.hid (KD.out.next an6.low)
    have N6 := Lib.hid an6.mg
    clear an6 KD HOm
    try go_wp2_with fail
    refine hK.out _ _ ?_ (fun hHeld => ?_)
    · exact K6.out.held
    clear hK K
    refine wpAnyH_ready (rs := [10]) (by kernel_rfl) (by simp) ?_
    refine AllReadyH.cons rfl (fun K hK => ?_) AllReadyH.nil
    go_simp
    refine (HR.out w6 oc N6.out K6.out).mono ?_
    rintro e w7 ⟨⟨b7, rfl, hb7⟩, l7⟩
    have e7 : b7 = true := hb7.2 HSM.out
    subst e7
    have K7 := Lib.hid (K6.out.next l7)
    clear l7 K6 HR N6 hb7
    try go_wp2_with fail
    refine hK.out _ _ ?_ (fun hHeld => ?_)
    · exact K7.out.held
    clear hK K
    refine takeH (i := 11) (d := 35) (v := ?_) (by kernel_rfl) (by kernel_rfl) (by kernel_rfl) rfl (fun _ _ _ h => h) (by rfl) ?_ hHeld ?_
    rotate_left
    · intro o ho w hSw
      obtain ⟨s1, s2⟩ := hSw
      cases ho
      go_simp
      try with_reducible rfl
    simp only [Act.put, List.setIfInBounds_toArray, List.set_cons_zero, List.set_cons_succ]
    refine takeH (i := 12) (d := 36) (v := ?_) (by kernel_rfl) (by kernel_rfl) (by kernel_rfl) rfl (fun _ _ _ h => h) (by rfl) ?_ hHeld ?_
    rotate_left
    · intro o ho w hSw
      obtain ⟨s1, s2⟩ := hSw
      cases ho
      go_simp
      try with_reducible rfl
    simp only [Act.put, List.setIfInBounds_toArray, List.set_cons_zero, List.set_cons_succ]
    refine takeH (i := 13) (d := 37) (v := ?_) (by kernel_rfl) (by kernel_rfl) (by kernel_rfl) rfl (fun _ _ _ h => h) (by rfl) ?_ hHeld ?_
    rotate_left
    · intro o ho w hSw
      obtain ⟨s1, s2⟩ := hSw
      cases ho
      go_simp
      try with_reducible rfl
    simp only [Act.put, List.setIfInBounds_toArray, List.set_cons_zero, List.set_cons_succ]
    refine takeH (i := 14) (d := 38) (v := ?_) (by kernel_rfl) (by kernel_rfl) (by kernel_rfl) rfl (fun _ _ _ h => h) (by rfl) ?_ hHeld ?_
    rotate_left
    · intro o ho w hSw
      obtain ⟨s1, s2⟩ := hSw
      cases ho
      go_simp
      try with_reducible rfl
    simp only [Act.put, List.setIfInBounds_toArray, List.set_cons_zero, List.set_cons_succ]
    refine takeH (i := 15) (d := 39) (v := ?_) (by kernel_rfl) (by kernel_rfl) (by kernel_rfl) rfl (fun _ _ _ h => h) (by rfl) ?_ hHeld ?_
    rotate_left
    · intro o ho w hSw
      obtain ⟨s1, s2⟩ := hSw
      cases ho
      go_simp
      try with_reducible rfl
    simp only [Act.put, List.setIfInBounds_toArray, List.set_cons_zero, List.set_cons_succ]
    refine takeH (i := 16) (d := 40) (v := ?_) (by kernel_rfl) (by kernel_rfl) (by kernel_rfl) rfl (fun _ _ _ h => h) (by rfl) ?_ hHeld ?_
    rotate_left
    · intro o ho w hSw
      obtain ⟨s1, s2⟩ := hSw
      cases ho
      go_simp
      try with_reducible rfl
    simp only [Act.put, List.setIfInBounds_toArray, List.set_cons_zero, List.set_cons_succ]
    refine takeH (i := 17) (d := 41) (v := ?_) (by kernel_rfl) (by kernel_rfl) (by kernel_rfl) rfl (fun _ _ _ h => h) (by rfl) ?_ hHeld ?_
    rotate_left
    · intro o ho w hSw
      obtain ⟨s1, s2⟩ := hSw
      cases ho
      go_simp
      try with_reducible rfl
    simp only [Act.put, List.setIfInBounds_toArray, List.set_cons_zero, List.set_cons_succ]
    refine skipH (i := 18) (d := 42) (by kernel_rfl) (by kernel_rfl) (by kernel_rfl) rfl (fun _ _ _ h => h) (by rfl) hHeld ?_
    simp only [Act.put, List.setIfInBounds_toArray, List.set_cons_zero, List.set_cons_succ]
    refine skipH (i := 19) (d := 43) (by kernel_rfl) (by kernel_rfl) (by kernel_rfl) rfl (fun _ _ _ h => h) (by rfl) hHeld ?_
    simp only [Act.put, List.setIfInBounds_toArray, List.set_cons_zero, List.set_cons_succ]
    refine skipH (i := 20) (d := 44) (by kernel_rfl) (by kernel_rfl) (by kernel_rfl) rfl (fun _ _ _ h => h) (by rfl) hHeld ?_
    simp only [Act.put, List.setIfInBounds_toArray, List.set_cons_zero, List.set_cons_succ]
    refine takeH (i := 21) (d := 45) (v := ?_) (by kernel_rfl) (by kernel_rfl) (by kernel_rfl) rfl (fun _ _ _ h => h) (by rfl) ?_ hHeld ?_
    rotate_left
    · intro o ho w hSw
      obtain ⟨s1, s2⟩ := hSw
      cases ho
      go_simp
      try with_reducible rfl
    simp only [Act.put, List.setIfInBounds_toArray, List.set_cons_zero, List.set_cons_succ]
    refine takeH (i := 22) (d := 46) (v := ?_) (by kernel_rfl) (by kernel_rfl) (by kernel_rfl) rfl (fun _ _ _ h => h) (by rfl) ?_ hHeld ?_
    rotate_left
    · intro o ho w hSw
      obtain ⟨s1, s2⟩ := hSw
      cases ho
      go_simp
      try with_reducible rfl
    simp only [Act.put, List.setIfInBounds_toArray, List.set_cons_zero, List.set_cons_succ]
    refine wpAnyH_done (by kernel_rfl) ?_ _
    clear hHeld HSM
    go_wp2_with (first
      | (refine load_struct Tryz.underlying34 rfl Tryz.msgSize gm cm (.tmp 3) rfl rfl rfl K7.out.rm HZm.out ?_)
      | fail)
    refine (HE.out w7 K7.out).mono ?_
    intro e w8 st
    clear HE
    rcases st with ⟨_, v8, rfl, ow, b8⟩ | ⟨hne, _⟩
    · rw [← HBS.out] at ow
      have K8 := K7.out.next b8
      have r8 := run_str v8 _ _ _ w8 (owns_SlIs ow)
      have rv8 := run_str (.slice A bs.length c) _ _ _ w8 K8.sl
      have R := Lib.hid K8.low
      clear ow b8 K8 K7
      go_wp2
      go_ret
      exact ⟨rfl, R.out⟩
    · exact absurd HENC.out hne
end Go.Proofs.YtepiifbleoimkaaGreatDoor
