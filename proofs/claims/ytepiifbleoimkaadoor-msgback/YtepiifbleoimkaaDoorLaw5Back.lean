/-
  Layer 5's MsgBack: whatever message, it answers true and leaves what was there.
-/
import Derived.Test.YtepiifbleoimkaaDoorLaw5Two
namespace Go.Proofs.YtepiifbleoimkaaDoor
open Go.RowKit
set_option maxRecDepth 100000

/-- What a walk keeps of a message that came in, and of one that was read. -/
structure KB (w W : World) (g lo hi : Nat) (cs cx : Array Value) (m mx : Nat → F) : Prop where
  km : KM w W cs m
  row : Has W g 33 cx
  mg : MgAt W lo hi cx mx
  hh : hi ≤ W.heap.size
theorem KB.next {w W W2 : World} {g lo hi : Nat} {cs cx : Array Value} {m mx : Nat → F} (k : KB w W g lo hi cs cx m mx) (b : Below W.heap.size W W2) : KB w W2 g lo hi cs cx m mx :=
  ⟨k.km.next b, k.row.only (Below.onlyNew b) (fun h => h), k.mg.keep ((Below.onlyNew b).keeps k.hh (fun _ _ _ h => h)), Nat.le_trans k.hh b.size⟩
theorem KB.drew {w W : World} {g lo hi : Nat} {cs cx : Array Value} {m mx : Nat → F} (k : KB w W g lo hi cs cx m mx) : KB w W.drew g lo hi cs cx m mx := k.next ⟨rfl, rfl, rfl, Nat.le_refl _, fun _ _ => rfl⟩
theorem KB.held {w W : World} {g lo hi : Nat} {cs cx : Array Value} {m mx : Nat → F} (k : KB w W g lo hi cs cx m mx) : Has W g 33 cx ∧ Has W w.heap.size 33 cs := ⟨k.row, k.km.row⟩

set_option maxHeartbeats 2000000 in
theorem back5_early (cs : Array Value) (m : Nat → F) (L : List (List UInt8)) (Q : List Q3) (b ve un an en na : List UInt8) (s : S11) (w : World) (hT : Tabs w) (hm : MgAt w 0 w.heap.size cs m) (P : Parts m L Q b ve un an en na s) (hf : ¬ FewP L Q b ve un an en na s) :
    Calls Tryd.prog 3 #[.agg cs] w fun e w' => e = .returned (.bool true) ∧ Below w.heap.size w w' := by
  have K0 := Lib.hid (KM.new hm)
  have C0 := Lib.hid (known5 _ (K0.out.tabs hT))
  have HF := Lib.hid (fun W (k : KM w W cs m) => few5_any 0 w.heap.size cs m L Q b ve un an en na s W k.mg k.low.size P.h11 P.h12 P.h22 P.h3 P.h7 P.h8 P.h9 P.h19 P.h23)
  have HZ := Lib.hid hm.size
  clear hT hm P
  go_enter Tryd.func3, Tryd.ntmps3
  go_wp2_with fail
  refine C0.out.mono ?_
  rintro e w1 ⟨rfl, b1⟩
  have K1 := Lib.hid (K0.out.next b1)
  clear b1 C0 K0
  go_wp2_with (first
    | (refine load_struct Tryd.underlying33 rfl Tryd.msgSize w.heap.size cs (.tmp 1) rfl rfl rfl K1.out.row HZ.out ?_)
    | fail)
  refine (HF.out w1 K1.out).mono ?_
  rintro e w2 ⟨⟨bb, rfl, hbb⟩, b2⟩
  have R := Lib.hid (K1.out.next b2).low
  clear b2 K1 HF
  have hb1 : bb = false := by
    cases bb with
    | true => exact absurd (hbb.1 rfl) hf
    | false => rfl
  subst hb1
  clear hbb hf
  go_wp2
  go_ret
  exact ⟨rfl, R.out⟩

set_option maxHeartbeats 4000000 in
theorem back5_walk (cs : Array Value) (m : Nat → F) (L : List (List UInt8)) (Q : List Q3) (b ve un an en na : List UInt8) (s : S11) (t tag : Nat) (w : World) (hT : Tabs w) (hm : MgAt w 0 w.heap.size cs m) (P : Parts m L Q b ve un an en na s) (hok : ∀ p ∈ places, (m p.2).Ok) (hf : FewP L Q b ve un an en na s)
    (h0 : m 0 = .num 1 t) (h1 : m 1 = .num 2 tag) (ht : t < 256) (htag : tag < 65536) :
    Calls Tryd.prog 3 #[.agg cs] w fun e w' => e = .returned (.bool true) ∧ Below w.heap.size w w' := by
  have K0 := Lib.hid (KM.new hm)
  have C0 := Lib.hid (known5 _ (K0.out.tabs hT))
  have HF := Lib.hid (fun W (k : KM w W cs m) => few5_any 0 w.heap.size cs m L Q b ve un an en na s W k.mg k.low.size P.h11 P.h12 P.h22 P.h3 P.h7 P.h8 P.h9 P.h19 P.h23)
  have HZ := Lib.hid hm.size
  have fa := few_all hm P hf
  have qa := qs_few (hm.kind (.qids, 12) (by decide)) (fa (.qids, 12) (by decide))
  have HE := Lib.hid (fun W (k : KM w W cs m) => k.encode hT h0 h1 ht htag (l := named t) rfl hok fa)
  have HOm := Lib.hid (fun W (k : KM w W cs m) => of5_any cs m W (k.mg.wide (Nat.le_refl _) k.low.size) qa)
  have HRE := Lib.hid (fun (W : World) (oc : Array Value) (r : RMgAt W 0 W.heap.size oc m) => rencode_any 0 W.heap.size t tag oc m W r h0 h1 (fun p hp => ⟨hok p hp, fa p hp⟩) (Nat.le_refl _))
  have hdec : encErr t (fieldsOf m (named t)) = 0 → isType t ∧ decM (msgB t tag (fieldsOf m (named t))) = some (t, tag, fieldsOf m (named t)) ∧ (msgB t tag (fieldsOf m (named t))).length ≤ 90000 := by
    intro he
    unfold encErr at he
    split at he
    · rename_i hty
      obtain ⟨l', hl'⟩ := Option.isSome_iff_exists.1 (named_some hty)
      have hl : named t = l' := by rw [named, hl']; rfl
      rw [hl] at he ⊢
      have hks := fields_kinds hm hl'
      have hoks : ∀ f ∈ fieldsOf m l', f.Ok := fun f hf => by
        obtain ⟨p, hp, rfl⟩ := List.mem_map.1 hf
        exact hok p ((named_mem hl').1 p hp)
      refine ⟨hty, decM_item hl' ht htag hks hoks he, ?_⟩
      have h4 := (named_std hl').2
      have := fBL_len (fieldsOf m l') he hoks
      have hfl : (fieldsOf m l').length = l'.length := by simp [fieldsOf]
      simp only [msgB, List.length_append, putB_length]
      omega
    · cases he
  have HD := Lib.hid hdec
  have HSx' : Hid (∀ (mx : Nat → F), (∀ p ∈ places, (mx p.2).Ok ∧ (mx p.2).Few) → mx 0 = .num 1 t → mx 1 = .num 2 tag → ∀ (W : World) (g lo hi : Nat) (cx : Array Value), KB w W g lo hi cs cx m mx → Calls Tryd.prog 14 #[.agg cx, .agg cs] W (Tells W (sameM t tag t tag mx m))) := Lib.hid (fun mx hx x0 x1 W g lo hi cx k => same5_any lo hi 0 w.heap.size t tag t tag cx cs mx m W k.mg k.km.mg k.hh k.km.low.size x0 x1 h0 h1 (fun p hp => (hx p hp).2))
  have HR' : Hid (∀ (mx : Nat → F), (∀ p ∈ places, (mx p.2).Ok ∧ (mx p.2).Few) → mx 0 = .num 1 t → mx 1 = .num 2 tag → isType t → ∀ (W : World) (ox om : Array Value), RMgAt W 0 W.heap.size ox mx → RMgAt W 0 W.heap.size om m → Calls Tryd.prog 15 #[.agg ox, .agg om] W (Tells W (sameM t tag t tag mx m))) := Lib.hid (fun mx hx x0 x1 hty W ox om rx rm => rsame_any t tag t tag ox om mx m W rx rm x0 x1 h0 h1 hx (fun p hp => ⟨hok p hp, fa p hp⟩) hty)
  have HT := Lib.hid hT
  have HFw := Lib.hid hf
  obtain ⟨fs, hfs⟩ : ∃ fs, fs = fieldsOf m (named t) := ⟨_, rfl⟩
  rw [← hfs] at HE HRE HD
  have HFS := Lib.hid hfs
  clear hT hm P hok hf h0 h1 fa qa hdec hfs
  go_enter Tryd.func3, Tryd.ntmps3
  go_wp2_with fail
  refine C0.out.mono ?_
  rintro e w1 ⟨rfl, b1⟩
  have K1 := Lib.hid (K0.out.next b1)
  clear b1 C0 K0
  go_wp2_with (first
    | (refine load_struct Tryd.underlying33 rfl Tryd.msgSize w.heap.size cs (.tmp 1) rfl rfl rfl K1.out.row HZ.out ?_)
    | fail)
  refine (HF.out w1 K1.out).mono ?_
  rintro e w2 ⟨⟨bb, rfl, hbb⟩, b2⟩
  have K2 := Lib.hid (K1.out.next b2)
  clear b2 K1 HF
  have hb1 : bb = true := hbb.2 HFw.out
  subst hb1
  clear hbb HFw
  go_wp2_with (first
    | (refine load_struct Tryd.underlying33 rfl Tryd.msgSize w.heap.size cs (.tmp 1) rfl rfl rfl K2.out.row HZ.out ?_)
    | fail)
  refine (HE.out w2 K2.out).mono ?_
  intro e w3 st
  clear HE
  rcases st with ⟨he, v3, rfl, ow, b3⟩ | ⟨he, rfl, b3⟩
  · obtain ⟨hty, hdc, hbl⟩ := HD.out he
    have k3 := K2.out.next b3
    have K3 := Lib.hid k3
    obtain ⟨B, hB⟩ : ∃ B, B = msgB t tag fs := ⟨_, rfl⟩
    rw [← hB] at ow hdc hbl
    have O3 := Lib.hid (owns_SlIs ow)
    have HO3 := Lib.hid (HOm.out w3 k3)
    clear ow b3 k3 K2 HD
    go_wp2_with (first
      | (refine load_struct Tryd.underlying33 rfl Tryd.msgSize w.heap.size cs (.tmp 1) rfl rfl rfl K3.out.row HZ.out ?_)
      | fail)
    refine HO3.out.mono ?_
    rintro e w4 ⟨oc, rfl, an4⟩
    have K4 := Lib.hid (K3.out.next an4.low)
    have s34 := an4.low.size
    have O4 := Lib.hid (O3.out.keep ((Below.onlyNew an4.low).keeps (Nat.le_refl _) (fun _ _ _ h => h)))
    have CE := Lib.hid (HRE.out w4 oc an4.mg)
    clear HO3 an4 K3 O3 HRE
    go_wp2_with fail
    refine CE.out.mono ?_
    intro e w5 st
    rcases st with ⟨_, v5, rfl, ow5, b5⟩ | ⟨hne, _⟩
    · rw [← hB] at ow5
      have K5 := Lib.hid (K4.out.next b5)
      have s45 := b5.size
      have sl3 := O4.out.keep ((Below.onlyNew b5).keeps s34 (fun _ _ _ h => h))
      have r3 := run_str v3 _ _ _ w5 sl3
      have r5 := run_str v5 _ _ _ w5 (owns_SlIs ow5)
      have cd := decode5_any v3 B _ _ w5 sl3 (by omega) (by omega) (K5.out.tabs HT.out)
      rw [hdc] at cd
      have CD := Lib.hid cd
      clear CE ow5 b5 K4 O4 sl3 cd hdc
      go_wp2_with fail
      refine CD.out.mono ?_
      rintro e w6 ⟨cx, rfl, mi, b6⟩
      clear r3 r5 CD
      have K6 := K5.out.next b6
      obtain ⟨zx, ox⟩ := mi.size
      obtain ⟨mx, l, g1, g2, g3, g4, g5, g6⟩ := mi
      obtain ⟨n7, kn7⟩ := new_setRow (w := w6) (t := 33) (cs := cx) (old := zeroCells 0 0)
      obtain ⟨W7, hW7⟩ : ∃ W, W = (w6.alloc (.cells (zeroCells 0 0) 33)).setRow w6.heap.size cx := ⟨_, rfl⟩
      rw [← hW7] at n7 kn7
      obtain ⟨gx, hgx⟩ : ∃ g, g = w6.heap.size := ⟨_, rfl⟩
      have KD := Lib.hid (KB.drew (g := gx) (cx := cx) (mx := mx) ⟨K6.keep kn7, by rw [hgx]; exact n7, g1.keep (kn7.keeps (Nat.le_refl _) (fun _ _ _ h => h)), kn7.size⟩)
      have hnm : named t = l := by rw [named, g4]; rfl
      have HSM : Hid (sameM t tag t tag mx m) := Lib.hid (same_named.2 (by rw [hnm, g5, HFS.out, hnm]))
      have HR := Lib.hid (fun W ox om rx rm => HR'.out mx g6 g2 g3 hty W ox om rx rm)
      have HSx := Lib.hid (fun W (k : KB w W gx w5.heap.size w6.heap.size cs cx m mx) => HSx'.out mx g6 g2 g3 W gx _ _ cx k)
      have qx := qs_few (g1.kind (.qids, 12) (by decide)) (g6 (.qids, 12) (by decide)).2
      have HOx := Lib.hid (fun W (k : KB w W gx w5.heap.size w6.heap.size cs cx m mx) => of5_any cx mx W (k.mg.wide (Nat.zero_le _) k.hh) qx)
      have HZx := Lib.hid zx
      have HOne := Lib.hid ox
      have HW7 : Hid ((w6.alloc (.cells (zeroCells 0 0) 33)).setRow w6.heap.size cx = W7) := hW7.symm
      clear b6 K6 g1 g2 g3 g4 g5 g6 n7 kn7 hW7 hnm K5 qx zx ox HSx' HR' HFS
      go_upto_region 12 with (first
        | (refine store_struct Tryd.msgSize w6.heap.size cx (.tmp 7) (.tmp 40) rfl rfl rfl rfl (Has.new w6 33 (zeroCells 0 0)) rfl HZx.out HOne.out ?_)
        | fail)
      refine (show Code.wp _ _ _ _ ((w6.alloc (.cells (zeroCells 0 0) 33)).setRow w6.heap.size cx) from ?_)
      rw [HW7.out, ← hgx]
      clear hgx HW7
      refine wp_region_held_drew (S := fun w' => Has w' gx 33 cx ∧ Has w' w.heap.size 33 cs) (by kernel_rfl) ?_ (fun hHeld => ?_)
      · exact KD.out.held
      refine takeH (i := 0) (d := 42) (v := ?_) (by kernel_rfl) (by kernel_rfl) (by kernel_rfl) rfl (fun _ _ _ h => h) (by rfl) ?_ hHeld ?_
      rotate_left
      · intro o ho w hSw
        obtain ⟨s1, s2⟩ := hSw
        cases ho
        go_simp
        try with_reducible rfl
      simp only [Act.put, List.setIfInBounds_toArray, List.set_cons_zero, List.set_cons_succ]
      refine takeH (i := 1) (d := 43) (v := ?_) (by kernel_rfl) (by kernel_rfl) (by kernel_rfl) rfl (fun _ _ _ h => h) (by rfl) ?_ hHeld ?_
      rotate_left
      · intro o ho w hSw
        obtain ⟨s1, s2⟩ := hSw
        cases ho
        go_simp
        try with_reducible rfl
      simp only [Act.put, List.setIfInBounds_toArray, List.set_cons_zero, List.set_cons_succ]
      refine takeH (i := 2) (d := 44) (v := ?_) (by kernel_rfl) (by kernel_rfl) (by kernel_rfl) rfl (fun _ _ _ h => h) (by rfl) ?_ hHeld ?_
      rotate_left
      · intro o ho w hSw
        obtain ⟨s1, s2⟩ := hSw
        cases ho
        go_simp
        try with_reducible rfl
      simp only [Act.put, List.setIfInBounds_toArray, List.set_cons_zero, List.set_cons_succ]
      refine takeH (i := 3) (d := 45) (v := .agg cx) (by kernel_rfl) (by kernel_rfl) (by kernel_rfl) rfl (fun _ _ _ h => h) (by rfl) ?_ hHeld ?_
      · intro o ho w hSw
        obtain ⟨s1, s2⟩ := hSw
        cases ho
        exact exec_load_row rfl rfl s1 Tryd.underlying33 rfl (by rw [HZx.out]; exact Tryd.msgSize)
      simp only [Act.put, List.setIfInBounds_toArray, List.set_cons_zero, List.set_cons_succ]
      refine takeH (i := 4) (d := 46) (v := .agg cs) (by kernel_rfl) (by kernel_rfl) (by kernel_rfl) rfl (fun _ _ _ h => h) (by rfl) ?_ hHeld ?_
      · intro o ho w hSw
        obtain ⟨s1, s2⟩ := hSw
        cases ho
        exact exec_load_row rfl rfl s2 Tryd.underlying33 rfl (by rw [HZ.out]; exact Tryd.msgSize)
      simp only [Act.put, List.setIfInBounds_toArray, List.set_cons_zero, List.set_cons_succ]
      refine wpAnyH_ready (rs := [5]) (by kernel_rfl) (by simp) ?_
      refine AllReadyH.cons rfl (fun K hK => ?_) AllReadyH.nil
      go_simp
      refine (HSx.out _ KD.out).mono ?_
      rintro e w8 ⟨⟨b8, rfl, hb8⟩, l8⟩
      have e8 : b8 = true := hb8.2 HSM.out
      subst e8
      have K8 := Lib.hid (KD.out.next l8)
      clear l8 KD HSx hb8
      try go_wp2_with fail
      refine hK.out _ _ ?_ (fun hHeld => ?_)
      · exact K8.out.held
      clear hK K
      refine takeH (i := 6) (d := 48) (v := ?_) (by kernel_rfl) (by kernel_rfl) (by kernel_rfl) rfl (fun _ _ _ h => h) (by rfl) ?_ hHeld ?_
      rotate_left
      · intro o ho w hSw
        obtain ⟨s1, s2⟩ := hSw
        cases ho
        go_simp
        try with_reducible rfl
      simp only [Act.put, List.setIfInBounds_toArray, List.set_cons_zero, List.set_cons_succ]
      refine takeH (i := 7) (d := 49) (v := ?_) (by kernel_rfl) (by kernel_rfl) (by kernel_rfl) rfl (fun _ _ _ h => h) (by rfl) ?_ hHeld ?_
      rotate_left
      · intro o ho w hSw
        obtain ⟨s1, s2⟩ := hSw
        cases ho
        go_simp
        try with_reducible rfl
      simp only [Act.put, List.setIfInBounds_toArray, List.set_cons_zero, List.set_cons_succ]
      refine takeH (i := 8) (d := 50) (v := .agg cx) (by kernel_rfl) (by kernel_rfl) (by kernel_rfl) rfl (fun _ _ _ h => h) (by rfl) ?_ hHeld ?_
      · intro o ho w hSw
        obtain ⟨s1, s2⟩ := hSw
        cases ho
        exact exec_load_row rfl rfl s1 Tryd.underlying33 rfl (by rw [HZx.out]; exact Tryd.msgSize)
      simp only [Act.put, List.setIfInBounds_toArray, List.set_cons_zero, List.set_cons_succ]
      refine takeH (i := 10) (d := 52) (v := .agg cs) (by kernel_rfl) (by kernel_rfl) (by kernel_rfl) rfl (fun _ _ _ h => h) (by rfl) ?_ hHeld ?_
      · intro o ho w hSw
        obtain ⟨s1, s2⟩ := hSw
        cases ho
        exact exec_load_row rfl rfl s2 Tryd.underlying33 rfl (by rw [HZ.out]; exact Tryd.msgSize)
      simp only [Act.put, List.setIfInBounds_toArray, List.set_cons_zero, List.set_cons_succ]
      refine wpAnyH_ready (rs := [9]) (by kernel_rfl) (by simp) ?_
      refine AllReadyH.cons rfl (fun K hK => ?_) AllReadyH.nil
      go_simp
      refine (HOx.out _ K8.out).mono ?_
      rintro e w9 ⟨ox, rfl, an9⟩
      have K9 := Lib.hid (K8.out.next an9.low)
      have N9 := Lib.hid an9.mg
      clear an9 K8 HOx
      try go_wp2_with fail
      refine hK.out _ _ ?_ (fun hHeld => ?_)
      · exact K9.out.held
      clear hK K
      refine wpAnyH_ready (rs := [11]) (by kernel_rfl) (by simp) ?_
      refine AllReadyH.cons rfl (fun K hK => ?_) AllReadyH.nil
      go_simp
      refine (HOm.out _ K9.out.km).mono ?_
      rintro e w10 ⟨om, rfl, an10⟩
      have K10 := Lib.hid (K9.out.next an10.low)
      have N10 := Lib.hid an10.mg
      have M10 := Lib.hid ((N9.out.keep ((Below.onlyNew an10.low).keeps (Nat.le_refl _) (fun _ _ _ h => h))).wide (Nat.le_refl _) an10.low.size)
      clear an10 K9 HOm N9
      try go_wp2_with fail
      refine hK.out _ _ ?_ (fun hHeld => ?_)
      · exact K10.out.held
      clear hK K
      refine wpAnyH_ready (rs := [12]) (by kernel_rfl) (by simp) ?_
      refine AllReadyH.cons rfl (fun K hK => ?_) AllReadyH.nil
      go_simp
      refine (HR.out w10 ox om M10.out N10.out).mono ?_
      rintro e w11 ⟨⟨b11, rfl, hb11⟩, l11⟩
      have e11 : b11 = true := hb11.2 HSM.out
      subst e11
      have K11 := Lib.hid (K10.out.next l11)
      clear l11 K10 HR N10 M10 hb11
      try go_wp2_with fail
      refine hK.out _ _ ?_ (fun hHeld => ?_)
      · exact K11.out.held
      clear hK K
      refine takeH (i := 13) (d := 55) (v := ?_) (by kernel_rfl) (by kernel_rfl) (by kernel_rfl) rfl (fun _ _ _ h => h) (by rfl) ?_ hHeld ?_
      rotate_left
      · intro o ho w hSw
        obtain ⟨s1, s2⟩ := hSw
        cases ho
        go_simp
        try with_reducible rfl
      simp only [Act.put, List.setIfInBounds_toArray, List.set_cons_zero, List.set_cons_succ]
      refine takeH (i := 14) (d := 2) (v := ?_) (by kernel_rfl) (by kernel_rfl) (by kernel_rfl) rfl (fun _ _ _ h => h) (by rfl) ?_ hHeld ?_
      rotate_left
      · intro o ho w hSw
        obtain ⟨s1, s2⟩ := hSw
        cases ho
        go_simp
        try with_reducible rfl
      simp only [Act.put, List.setIfInBounds_toArray, List.set_cons_zero, List.set_cons_succ]
      refine wpAnyH_done (by kernel_rfl) ?_ _
      have R := Lib.hid K11.out.km.low
      clear K11 hHeld HSM
      go_wp2
      go_ret
      exact ⟨rfl, R.out⟩
    · exact absurd he hne
  · have k3 := K2.out.next b3
    have K3 := Lib.hid k3
    have HO3 := Lib.hid (HOm.out w3 k3)
    clear b3 k3 K2 HD
    go_wp2_with (first
      | (refine load_struct Tryd.underlying33 rfl Tryd.msgSize w.heap.size cs (.tmp 1) rfl rfl rfl K3.out.row HZ.out ?_)
      | fail)
    refine HO3.out.mono ?_
    rintro e w4 ⟨oc, rfl, an4⟩
    have K4 := Lib.hid (K3.out.next an4.low)
    have CE := Lib.hid (HRE.out w4 oc an4.mg)
    clear HO3 an4 K3 HRE
    go_wp2_with fail
    refine CE.out.mono ?_
    intro e w5 st
    rcases st with ⟨hze, _⟩ | ⟨_, rfl, b5⟩
    · exact absurd hze he
    · have R := Lib.hid (K4.out.next b5).low
      have rn := run_str (.slice none 0 0) [] 0 0 w5 (sl_nil _ _ _)
      have hd : (encErr t fs != 0) = true := by simpa using he
      clear CE b5 K4 he
      generalize encErr t fs = er at hd
      go_wp2
      go_ret
      exact ⟨rfl, R.out⟩
end Go.Proofs.YtepiifbleoimkaaDoor
