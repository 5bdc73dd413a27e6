/-
  Layer 5's MsgTwo: whatever two messages, it answers true and leaves what was there.
-/
import Derived.Test.YtepiifbleoimkaaDoorLaw5Of
import Derived.Test.YtepiifbleoimkaaDoorMsgS
namespace Go.Proofs.YtepiifbleoimkaaDoor
open Go.RowKit
set_option maxRecDepth 100000

theorem bool_same {a b : Bool} {p : Prop} (h1 : a = true ↔ p) (h2 : b = true ↔ p) : a = b := by
  cases a <;> cases b <;> simp_all
theorem sameM_refl (t tag : Nat) (m : Nat → F) : sameM t tag t tag m m := ⟨rfl, rfl, fun _ _ => rfl⟩
theorem sameM_symm {t tag t' tag' : Nat} {m m' : Nat → F} : sameM t tag t' tag' m m' ↔ sameM t' tag' t tag m' m := by
  constructor
  · rintro ⟨h1, h2, h3⟩
    exact ⟨h1.symm, h2.symm, fun l hl => (h3 l (by rw [h1]; exact hl)).symm⟩
  · rintro ⟨h1, h2, h3⟩
    exact ⟨h1.symm, h2.symm, fun l hl => (h3 l (by rw [h1]; exact hl)).symm⟩
/-- What a walk keeps of two messages that came in. -/
structure KM2 (w W : World) (ca cb : Array Value) (m m' : Nat → F) : Prop where
  low : Below w.heap.size w W
  ra : Has W w.heap.size 33 ca
  rb : Has W (w.heap.size + 1) 33 cb
  ma : MgAt W 0 w.heap.size ca m
  mb : MgAt W 0 w.heap.size cb m'
theorem KM2.new {w : World} {ca cb : Array Value} {m m' : Nat → F} (h : MgAt w 0 w.heap.size ca m) (h' : MgAt w 0 w.heap.size cb m') : KM2 w ((w.alloc (.cells ca 33)).alloc (.cells cb 33)) ca cb m m' := by
  have k : Only (fun _ => False) w ((w.alloc (.cells ca 33)).alloc (.cells cb 33)) := ((Only.refl _ w).alloc _).alloc _
  refine ⟨k.below (Nat.le_refl _) (fun _ _ h => h), (Has.new w _ _).alloc _, ?_, h.keep (k.keeps (Nat.le_refl _) (fun _ _ _ h => h)), h'.keep (k.keeps (Nat.le_refl _) (fun _ _ _ h => h))⟩
  have := Has.new (w.alloc (.cells ca 33)) 33 cb
  simpa using this
theorem KM2.next {w W W2 : World} {ca cb : Array Value} {m m' : Nat → F} (k : KM2 w W ca cb m m') (b : Below W.heap.size W W2) : KM2 w W2 ca cb m m' :=
  ⟨k.low.trans (b.mono k.low.size), k.ra.only (Below.onlyNew b) (fun h => h), k.rb.only (Below.onlyNew b) (fun h => h), k.ma.keep ((Below.onlyNew b).keeps k.low.size (fun _ _ _ h => h)), k.mb.keep ((Below.onlyNew b).keeps k.low.size (fun _ _ _ h => h))⟩
theorem KM2.drew {w W : World} {ca cb : Array Value} {m m' : Nat → F} (k : KM2 w W ca cb m m') : KM2 w W.drew ca cb m m' := k.next ⟨rfl, rfl, rfl, Nat.le_refl _, fun _ _ => rfl⟩
theorem KM2.held {w W : World} {ca cb : Array Value} {m m' : Nat → F} (k : KM2 w W ca cb m m') : Has W w.heap.size 33 ca ∧ Has W (w.heap.size + 1) 33 cb := ⟨k.ra, k.rb⟩
theorem qs_few {m : Nat → F} (h : (m 12).kind = .qids) (hf : (m 12).Few) : (m 12).qs.length ≤ 1000 := by
  rw [is_qids h] at hf
  exact hf

set_option maxHeartbeats 2000000 in
theorem two5_early (ca cb : Array Value) (m m' : Nat → F) (L : List (List UInt8)) (Q : List Q3) (b ve un an en na : List UInt8) (s : S11) (L' : List (List UInt8)) (Q' : List Q3) (b' ve' un' an' en' na' : List UInt8) (s' : S11) (t t' : Nat) (w : World) (hT : Tabs w) (hm : MgAt w 0 w.heap.size ca m) (hm' : MgAt w 0 w.heap.size cb m') (P : Parts m L Q b ve un an en na s) (P' : Parts m' L' Q' b' ve' un' an' en' na' s')
    (h0 : m 0 = .num 1 t) (h0' : m' 0 = .num 1 t') (h : ¬ FewP L Q b ve un an en na s ∨ ¬ FewP L' Q' b' ve' un' an' en' na' s' ∨ ¬ isType t ∨ ¬ isType t') :
    Calls Tryd.prog 5 #[.agg ca, .agg cb] w fun e w' => e = .returned (.bool true) ∧ Below w.heap.size w w' := by
  have K0 := Lib.hid (KM2.new hm hm')
  have C0 := Lib.hid (known5 _ (hT.below K0.out.low))
  have HFa := Lib.hid (fun W (k : KM2 w W ca cb m m') => few5_any 0 w.heap.size ca m L Q b ve un an en na s W k.ma k.low.size P.h11 P.h12 P.h22 P.h3 P.h7 P.h8 P.h9 P.h19 P.h23)
  have HFb := Lib.hid (fun W (k : KM2 w W ca cb m m') => few5_any 0 w.heap.size cb m' L' Q' b' ve' un' an' en' na' s' W k.mb k.low.size P'.h11 P'.h12 P'.h22 P'.h3 P'.h7 P'.h8 P'.h9 P'.h19 P'.h23)
  have HZa := Lib.hid hm.size
  have HZb := Lib.hid hm'.size
  have HEa : Hid (ca[0]? = some (.int .u8 (t : Int))) := Lib.hid (by have := hm.lies (.num 1, 0) (by decide); simp only [h0] at this; exact this)
  have HEb : Hid (cb[0]? = some (.int .u8 (t' : Int))) := Lib.hid (by have := hm'.lies (.num 1, 0) (by decide); simp only [h0'] at this; exact this)
  have KNa := Lib.hid (refknown_any t)
  have KNb := Lib.hid (refknown_any t')
  clear hT hm hm' P P' h0 h0'
  go_enter Tryd.func5, Tryd.ntmps5
  go_wp2_with fail
  refine C0.out.mono ?_
  rintro e w1 ⟨rfl, b1⟩
  have K1 := Lib.hid (K0.out.next b1)
  clear b1 C0 K0
  go_wp2_with (first
    | (refine load_struct Tryd.underlying33 rfl Tryd.msgSize w.heap.size ca (.tmp 2) rfl rfl rfl K1.out.ra HZa.out ?_)
    | fail)
  refine (HFa.out w1 K1.out).mono ?_
  rintro e w2 ⟨⟨ba, rfl, hba⟩, b2⟩
  have K2 := Lib.hid (K1.out.next b2)
  clear b2 K1 HFa
  by_cases hfa : FewP L Q b ve un an en na s
  · have hb1 : ba = true := hba.2 hfa
    subst hb1
    go_wp2_with (first
      | (refine load_structG Tryd.underlying33 rfl Tryd.msgSize (w.heap.size + 1) cb (.tmp 3) rfl rfl rfl K2.out.rb HZb.out ?_)
      | fail)
    refine (HFb.out w2 K2.out).mono ?_
    rintro e w3 ⟨⟨bb, rfl, hbb⟩, b3⟩
    have K3 := Lib.hid (K2.out.next b3)
    clear b3 K2 HFb hba
    by_cases hfb : FewP L' Q' b' ve' un' an' en' na' s'
    · have hb2 : bb = true := hbb.2 hfb
      subst hb2
      have ca0 := (K3.out.ra.cell 0).trans HEa.out
      have cb0 := (K3.out.rb.cell 0).trans HEb.out
      clear hbb HEa HEb
      go_wp2_with fail
      refine (KNa.out w3).mono ?_
      rintro e w' ⟨rfl, rfl⟩
      by_cases hta : isType t
      · have hk1 : decide (isType t) = true := decide_eq_true hta
        rw [hk1]
        go_wp2_with fail
        refine (KNb.out w3).mono ?_
        rintro e w' ⟨rfl, rfl⟩
        by_cases htb : isType t'
        · rcases h with h | h | h | h
          · exact absurd hfa h
          · exact absurd hfb h
          · exact absurd hta h
          · exact absurd htb h
        · clear h hfa hfb hta
          have hk2 : decide (isType t') = false := decide_eq_false htb
          rw [hk2]
          have R := Lib.hid K3.out.low
          clear K3 KNa KNb
          go_wp2
          go_ret
          exact ⟨rfl, R.out⟩
      · clear h hfa hfb
        have hk1 : decide (isType t) = false := decide_eq_false hta
        rw [hk1]
        have R := Lib.hid K3.out.low
        clear K3 KNa KNb
        go_wp2
        go_ret
        exact ⟨rfl, R.out⟩
    · clear h hfa
      have hb2 : bb = false := by
        cases bb with
        | true => exact absurd (hbb.1 rfl) hfb
        | false => rfl
      subst hb2
      have R := Lib.hid K3.out.low
      clear K3 HEa HEb KNa KNb hbb hfb
      go_wp2
      go_ret
      exact ⟨rfl, R.out⟩
  · clear h
    have hb1 : ba = false := by
      cases ba with
      | true => exact absurd (hba.1 rfl) hfa
      | false => rfl
    subst hb1
    have R := Lib.hid K2.out.low
    clear K2 HFb HEa HEb KNa KNb hba hfa
    go_wp2
    go_ret
    exact ⟨rfl, R.out⟩

set_option maxHeartbeats 4000000 in
theorem two5_walk (ca cb : Array Value) (m m' : Nat → F) (L : List (List UInt8)) (Q : List Q3) (b ve un an en na : List UInt8) (s : S11) (L' : List (List UInt8)) (Q' : List Q3) (b' ve' un' an' en' na' : List UInt8) (s' : S11) (t tag t' tag' : Nat) (w : World) (hT : Tabs w) (hm : MgAt w 0 w.heap.size ca m) (hm' : MgAt w 0 w.heap.size cb m') (P : Parts m L Q b ve un an en na s) (P' : Parts m' L' Q' b' ve' un' an' en' na' s')
    (h0 : m 0 = .num 1 t) (h1 : m 1 = .num 2 tag) (h0' : m' 0 = .num 1 t') (h1' : m' 1 = .num 2 tag') (hok : ∀ p ∈ places, (m p.2).Ok) (hok' : ∀ p ∈ places, (m' p.2).Ok) (hfa : FewP L Q b ve un an en na s) (hfb : FewP L' Q' b' ve' un' an' en' na' s') (hta : isType t) (htb : isType t') :
    Calls Tryd.prog 5 #[.agg ca, .agg cb] w fun e w' => e = .returned (.bool true) ∧ Below w.heap.size w w' := by
  have fa := few_all hm P hfa
  have fb := few_all hm' P' hfb
  have qa := qs_few (hm.kind (.qids, 12) (by decide)) (fa (.qids, 12) (by decide))
  have qb := qs_few (hm'.kind (.qids, 12) (by decide)) (fb (.qids, 12) (by decide))
  have HSab := Lib.hid (fun W (k : KM2 w W ca cb m m') => same5_any 0 w.heap.size 0 w.heap.size t tag t' tag' ca cb m m' W k.ma k.mb k.low.size k.low.size h0 h1 h0' h1' fa)
  have HSb := Lib.hid (fun W (k : KM2 w W ca cb m m') => same5_any 0 w.heap.size 0 w.heap.size t' tag' t tag cb ca m' m W k.mb k.ma k.low.size k.low.size h0' h1' h0 h1 fb)
  have HSa := Lib.hid (fun W (k : KM2 w W ca cb m m') => same5_any 0 w.heap.size 0 w.heap.size t tag t tag ca ca m m W k.ma k.ma k.low.size k.low.size h0 h1 h0 h1 fa)
  have HOa := Lib.hid (fun W (k : KM2 w W ca cb m m') => of5_any ca m W (k.ma.wide (Nat.le_refl _) k.low.size) qa)
  have HOb := Lib.hid (fun W (k : KM2 w W ca cb m m') => of5_any cb m' W (k.mb.wide (Nat.le_refl _) k.low.size) qb)
  have HR := Lib.hid (fun (W : World) (oa ob : Array Value) (ra : RMgAt W 0 W.heap.size oa m) (rb : RMgAt W 0 W.heap.size ob m') => rsame_any t tag t' tag' oa ob m m' W ra rb h0 h1 h0' h1' (fun p hp => ⟨hok p hp, fa p hp⟩) (fun p hp => ⟨hok' p hp, fb p hp⟩) hta)
  have HSY := Lib.hid (sameM_symm (t := t) (tag := tag) (t' := t') (tag' := tag') (m := m) (m' := m'))
  have K0 := Lib.hid (KM2.new hm hm')
  have C0 := Lib.hid (known5 _ (hT.below K0.out.low))
  have HFa := Lib.hid (fun W (k : KM2 w W ca cb m m') => few5_any 0 w.heap.size ca m L Q b ve un an en na s W k.ma k.low.size P.h11 P.h12 P.h22 P.h3 P.h7 P.h8 P.h9 P.h19 P.h23)
  have HFb := Lib.hid (fun W (k : KM2 w W ca cb m m') => few5_any 0 w.heap.size cb m' L' Q' b' ve' un' an' en' na' s' W k.mb k.low.size P'.h11 P'.h12 P'.h22 P'.h3 P'.h7 P'.h8 P'.h9 P'.h19 P'.h23)
  have HZa := Lib.hid hm.size
  have HZb := Lib.hid hm'.size
  have HEa : Hid (ca[0]? = some (.int .u8 (t : Int))) := Lib.hid (by have := hm.lies (.num 1, 0) (by decide); simp only [h0] at this; exact this)
  have HEb : Hid (cb[0]? = some (.int .u8 (t' : Int))) := Lib.hid (by have := hm'.lies (.num 1, 0) (by decide); simp only [h0'] at this; exact this)
  have KNa := Lib.hid (refknown_any t)
  have KNb := Lib.hid (refknown_any t')
  clear hT hm hm' P P' h0 h1 h0' h1' fa fb qa qb hok hok'
  go_enter Tryd.func5, Tryd.ntmps5
  go_wp2_with fail
  refine C0.out.mono ?_
  rintro e w1 ⟨rfl, b1⟩
  have K1 := Lib.hid (K0.out.next b1)
  clear b1 C0 K0
  go_wp2_with (first
    | (refine load_struct Tryd.underlying33 rfl Tryd.msgSize w.heap.size ca (.tmp 2) rfl rfl rfl K1.out.ra HZa.out ?_)
    | fail)
  refine (HFa.out w1 K1.out).mono ?_
  rintro e w2 ⟨⟨ba, rfl, hba⟩, b2⟩
  have K2 := Lib.hid (K1.out.next b2)
  clear b2 K1 HFa
  have hb1 : ba = true := hba.2 hfa
  subst hb1
  go_wp2_with (first
    | (refine load_structG Tryd.underlying33 rfl Tryd.msgSize (w.heap.size + 1) cb (.tmp 3) rfl rfl rfl K2.out.rb HZb.out ?_)
    | fail)
  refine (HFb.out w2 K2.out).mono ?_
  rintro e w3 ⟨⟨bb, rfl, hbb⟩, b3⟩
  have K3 := Lib.hid (K2.out.next b3)
  clear b3 K2 HFb hba
  have hb2 : bb = true := hbb.2 hfb
  subst hb2
  have ca0 := (K3.out.ra.cell 0).trans HEa.out
  have cb0 := (K3.out.rb.cell 0).trans HEb.out
  clear hbb HEa HEb
  go_wp2_with fail
  refine (KNa.out w3).mono ?_
  rintro e w' ⟨rfl, rfl⟩
  have hk1 : decide (isType t) = true := decide_eq_true hta
  rw [hk1]
  go_wp2_with fail
  refine (KNb.out w3).mono ?_
  rintro e w' ⟨rfl, rfl⟩
  have hk2 : decide (isType t') = true := decide_eq_true htb
  rw [hk2]
  clear ca0 cb0 KNa KNb
  go_wp2_with (first
    | (refine load_struct Tryd.underlying33 rfl Tryd.msgSize w.heap.size ca (.tmp 2) rfl rfl rfl K3.out.ra HZa.out ?_)
    | (refine load_struct Tryd.underlying33 rfl Tryd.msgSize (w.heap.size + 1) cb (.tmp 3) rfl rfl rfl K3.out.rb HZb.out ?_)
    | fail)
  refine (HSab.out w3 K3.out).mono ?_
  rintro e w4 ⟨⟨bs, rfl, hbs⟩, b4⟩
  have HBS := Lib.hid hbs
  have KD := Lib.hid (K3.out.next b4).drew
  clear b4 hbs K3 HSab
  go_upto_region 6 with fail
  refine wp_region_held_drew (S := fun w' => Has w' w.heap.size 33 ca ∧ Has w' (w.heap.size + 1) 33 cb) (by kernel_rfl) ?_ (fun hHeld => ?_)
  · exact KD.out.held
  refine takeH (i := 0) (d := 31) (v := ?_) (by kernel_rfl) (by kernel_rfl) (by kernel_rfl) rfl (fun _ _ _ h => h) (by rfl) ?_ hHeld ?_
  rotate_left
  · intro o ho w hSw
    obtain ⟨s1, s2⟩ := hSw
    cases ho
    go_simp
    try with_reducible rfl
  simp only [Act.put, List.setIfInBounds_toArray, List.set_cons_zero, List.set_cons_succ]
  refine takeH (i := 1) (d := 32) (v := .agg ca) (by kernel_rfl) (by kernel_rfl) (by kernel_rfl) rfl (fun _ _ _ h => h) (by rfl) ?_ hHeld ?_
  · intro o ho w hSw
    obtain ⟨s1, s2⟩ := hSw
    cases ho
    exact exec_load_row rfl rfl s1 Tryd.underlying33 rfl (by rw [HZa.out]; exact Tryd.msgSize)
  simp only [Act.put, List.setIfInBounds_toArray, List.set_cons_zero, List.set_cons_succ]
  refine takeH (i := 3) (d := 34) (v := .agg cb) (by kernel_rfl) (by kernel_rfl) (by kernel_rfl) rfl (fun _ _ _ h => h) (by rfl) ?_ hHeld ?_
  · intro o ho w hSw
    obtain ⟨s1, s2⟩ := hSw
    cases ho
    exact exec_load_row rfl rfl s2 Tryd.underlying33 rfl (by rw [HZb.out]; exact Tryd.msgSize)
  simp only [Act.put, List.setIfInBounds_toArray, List.set_cons_zero, List.set_cons_succ]
  refine wpAnyH_ready (rs := [2]) (by kernel_rfl) (by simp) ?_
  refine AllReadyH.cons rfl (fun K hK => ?_) AllReadyH.nil
  go_simp
  refine (HOa.out _ KD.out).mono ?_
  rintro e w6 ⟨oa, rfl, an6⟩
  have K6 := Lib.hid (KD.out.next an6.low)
  have N6 := Lib.hid an6.mg
  clear an6 KD HOa
  try go_wp2_with fail
  refine hK.out _ _ ?_ (fun hHeld => ?_)
  · exact K6.out.held
  clear hK K
  refine wpAnyH_ready (rs := [4]) (by kernel_rfl) (by simp) ?_
  refine AllReadyH.cons rfl (fun K hK => ?_) AllReadyH.nil
  go_simp
  refine (HOb.out _ K6.out).mono ?_
  rintro e w7 ⟨ob, rfl, an7⟩
  have K7 := Lib.hid (K6.out.next an7.low)
  have N7 := Lib.hid an7.mg
  have M7 := Lib.hid ((N6.out.keep ((Below.onlyNew an7.low).keeps (Nat.le_refl _) (fun _ _ _ h => h))).wide (Nat.le_refl _) an7.low.size)
  clear an7 K6 HOb N6
  try go_wp2_with fail
  refine hK.out _ _ ?_ (fun hHeld => ?_)
  · exact K7.out.held
  clear hK K
  refine wpAnyH_ready (rs := [5]) (by kernel_rfl) (by simp) ?_
  refine AllReadyH.cons rfl (fun K hK => ?_) AllReadyH.nil
  go_simp
  refine (HR.out w7 oa ob M7.out N7.out).mono ?_
  rintro e w8 ⟨⟨b8, rfl, hb8⟩, l8⟩
  have e8 : b8 = bs := bool_same hb8 HBS.out
  subst e8
  have K8 := Lib.hid (K7.out.next l8)
  clear l8 K7 HR N7 M7 hb8
  try go_wp2_with fail
  refine hK.out _ _ ?_ (fun hHeld => ?_)
  · exact K8.out.held
  clear hK K
  refine takeH (i := 6) (d := 37) (v := ?_) (by kernel_rfl) (by kernel_rfl) (by kernel_rfl) rfl (fun _ _ _ h => h) (by rfl) ?_ hHeld ?_
  rotate_left
  · intro o ho w hSw
    obtain ⟨s1, s2⟩ := hSw
    cases ho
    go_simp
    try with_reducible rfl
  simp only [Act.put, List.setIfInBounds_toArray, List.set_cons_zero, List.set_cons_succ]
  refine takeH (i := 7) (d := 38) (v := ?_) (by kernel_rfl) (by kernel_rfl) (by kernel_rfl) rfl (fun _ _ _ h => h) (by rfl) ?_ hHeld ?_
  rotate_left
  · intro o ho w hSw
    obtain ⟨s1, s2⟩ := hSw
    cases ho
    go_simp
    try with_reducible rfl
  simp only [Act.put, List.setIfInBounds_toArray, List.set_cons_zero, List.set_cons_succ]
  refine takeH (i := 8) (d := 39) (v := ?_) (by kernel_rfl) (by kernel_rfl) (by kernel_rfl) rfl (fun _ _ _ h => h) (by rfl) ?_ hHeld ?_
  rotate_left
  · intro o ho w hSw
    obtain ⟨s1, s2⟩ := hSw
    cases ho
    go_simp
    try with_reducible rfl
  simp only [Act.put, List.setIfInBounds_toArray, List.set_cons_zero, List.set_cons_succ]
  refine takeH (i := 9) (d := 40) (v := .agg cb) (by kernel_rfl) (by kernel_rfl) (by kernel_rfl) rfl (fun _ _ _ h => h) (by rfl) ?_ hHeld ?_
  · intro o ho w hSw
    obtain ⟨s1, s2⟩ := hSw
    cases ho
    exact exec_load_row rfl rfl s2 Tryd.underlying33 rfl (by rw [HZb.out]; exact Tryd.msgSize)
  simp only [Act.put, List.setIfInBounds_toArray, List.set_cons_zero, List.set_cons_succ]
  refine takeH (i := 10) (d := 41) (v := .agg ca) (by kernel_rfl) (by kernel_rfl) (by kernel_rfl) rfl (fun _ _ _ h => h) (by rfl) ?_ hHeld ?_
  · intro o ho w hSw
    obtain ⟨s1, s2⟩ := hSw
    cases ho
    exact exec_load_row rfl rfl s1 Tryd.underlying33 rfl (by rw [HZa.out]; exact Tryd.msgSize)
  simp only [Act.put, List.setIfInBounds_toArray, List.set_cons_zero, List.set_cons_succ]
  refine wpAnyH_ready (rs := [11]) (by kernel_rfl) (by simp) ?_
  refine AllReadyH.cons rfl (fun K hK => ?_) AllReadyH.nil
  go_simp
  refine (HSb.out _ K8.out).mono ?_
  rintro e w9 ⟨⟨b9, rfl, hb9⟩, l9⟩
  have e9 : b9 = b8 := bool_same hb9 (HBS.out.trans HSY.out)
  subst e9
  have K9 := Lib.hid (K8.out.next l9)
  clear l9 K8 HSb hb9
  try go_wp2_with fail
  refine hK.out _ _ ?_ (fun hHeld => ?_)
  · exact K9.out.held
  clear hK K
  refine takeH (i := 12) (d := 43) (v := ?_) (by kernel_rfl) (by kernel_rfl) (by kernel_rfl) rfl (fun _ _ _ h => h) (by rfl) ?_ hHeld ?_
  rotate_left
  · intro o ho w hSw
    obtain ⟨s1, s2⟩ := hSw
    cases ho
    go_simp
    try with_reducible rfl
  simp only [Act.put, List.setIfInBounds_toArray, List.set_cons_zero, List.set_cons_succ]
  refine takeH (i := 13) (d := 44) (v := ?_) (by kernel_rfl) (by kernel_rfl) (by kernel_rfl) rfl (fun _ _ _ h => h) (by rfl) ?_ hHeld ?_
  rotate_left
  · intro o ho w hSw
    obtain ⟨s1, s2⟩ := hSw
    cases ho
    go_simp
    try with_reducible rfl
  simp only [Act.put, List.setIfInBounds_toArray, List.set_cons_zero, List.set_cons_succ]
  refine takeH (i := 14) (d := 45) (v := ?_) (by kernel_rfl) (by kernel_rfl) (by kernel_rfl) rfl (fun _ _ _ h => h) (by rfl) ?_ hHeld ?_
  rotate_left
  · intro o ho w hSw
    obtain ⟨s1, s2⟩ := hSw
    cases ho
    go_simp
    try with_reducible rfl
  simp only [Act.put, List.setIfInBounds_toArray, List.set_cons_zero, List.set_cons_succ]
  refine takeH (i := 15) (d := 46) (v := .agg ca) (by kernel_rfl) (by kernel_rfl) (by kernel_rfl) rfl (fun _ _ _ h => h) (by rfl) ?_ hHeld ?_
  · intro o ho w hSw
    obtain ⟨s1, s2⟩ := hSw
    cases ho
    exact exec_load_row rfl rfl s1 Tryd.underlying33 rfl (by rw [HZa.out]; exact Tryd.msgSize)
  simp only [Act.put, List.setIfInBounds_toArray, List.set_cons_zero, List.set_cons_succ]
  refine takeH (i := 16) (d := 47) (v := .agg ca) (by kernel_rfl) (by kernel_rfl) (by kernel_rfl) rfl (fun _ _ _ h => h) (by rfl) ?_ hHeld ?_
  · intro o ho w hSw
    obtain ⟨s1, s2⟩ := hSw
    cases ho
    exact exec_load_row rfl rfl s1 Tryd.underlying33 rfl (by rw [HZa.out]; exact Tryd.msgSize)
  simp only [Act.put, List.setIfInBounds_toArray, List.set_cons_zero, List.set_cons_succ]
  refine wpAnyH_ready (rs := [17]) (by kernel_rfl) (by simp) ?_
  refine AllReadyH.cons rfl (fun K hK => ?_) AllReadyH.nil
  go_simp
  refine (HSa.out _ K9.out).mono ?_
  rintro e w10 ⟨⟨b10, rfl, hb10⟩, l10⟩
  have e10 : b10 = true := hb10.2 (sameM_refl _ _ _)
  subst e10
  have K10 := Lib.hid (K9.out.next l10)
  clear l10 K9 HSa hb10
  try go_wp2_with fail
  refine hK.out _ _ ?_ (fun hHeld => ?_)
  · exact K10.out.held
  clear hK K
  refine takeH (i := 18) (d := 49) (v := ?_) (by kernel_rfl) (by kernel_rfl) (by kernel_rfl) rfl (fun _ _ _ h => h) (by rfl) ?_ hHeld ?_
  rotate_left
  · intro o ho w hSw
    obtain ⟨s1, s2⟩ := hSw
    cases ho
    go_simp
    try with_reducible rfl
  simp only [Act.put, List.setIfInBounds_toArray, List.set_cons_zero, List.set_cons_succ]
  refine takeH (i := 19) (d := 4) (v := ?_) (by kernel_rfl) (by kernel_rfl) (by kernel_rfl) rfl (fun _ _ _ h => h) (by rfl) ?_ hHeld ?_
  rotate_left
  · intro o ho w hSw
    obtain ⟨s1, s2⟩ := hSw
    cases ho
    go_simp
    try with_reducible rfl
  simp only [Act.put, List.setIfInBounds_toArray, List.set_cons_zero, List.set_cons_succ]
  refine wpAnyH_done (by kernel_rfl) ?_ _
  have R := Lib.hid K10.out.low
  clear K10 hHeld HBS
  go_wp2
  go_ret
  exact ⟨rfl, R.out⟩
end Go.Proofs.YtepiifbleoimkaaDoor
