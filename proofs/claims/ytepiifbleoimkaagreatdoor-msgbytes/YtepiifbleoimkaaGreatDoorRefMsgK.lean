/-
  The second reading's Same.
-/
import Derived.Test.YtepiifbleoimkaaGreatDoorRefMsgJ
import Derived.Deep.Cut
namespace Go.Proofs.YtepiifbleoimkaaGreatDoor
open Go.RowKit
set_option maxRecDepth 100000

theorem skipH {P : Program} {ops : Array Oper} {Q : Exit → Act → World → Prop} {md : Region.Mode} {S : World → Prop} {i d : Nat} {fuel : Nat} {listed : Array Bool} {a : Act} {w : World}
    (hs : Region.noSelect ops = true) (hf : Region.free md ops listed i = true) (hr : (Region.ready md ops listed).contains i = true)
    (hd : ops[i]?.map (fun o => o.dst) = some (some d)) (hQ : ∀ c a w, Q (.panic c) (a.put (some d) undef) w → Q (.panic c) a w)
    (hw : ops[i]?.map (fun o => Region.wanted o (yielded ops a.tmps)) = some false) (hS : S w)
    (h : wpAnyH P md ops Q S fuel (listed.setIfInBounds i true) (a.put (some d) undef) w) : wpAnyH P md ops Q S (fuel + 1) listed a w := by
  obtain ⟨o, ho, hod⟩ := Option.map_eq_some_iff.1 hd
  obtain ⟨o', ho', how⟩ := Option.map_eq_some_iff.1 hw
  rw [ho] at ho'
  injection ho' with ho'
  subst ho'
  exact wpAnyH_take ho hs hf hr (by rw [hod]; exact hQ) (Or.inr ⟨how, rfl⟩) hS (by rw [hod]; exact h)
theorem same_named {t tag : Nat} {m m' : Nat → F} : sameM t tag t tag m m' ↔ fieldsOf m (named t) = fieldsOf m' (named t) := by
  unfold sameM named
  constructor
  · rintro ⟨_, _, h⟩
    cases hn : namedOf t with
    | none => rfl
    | some l => exact h l hn
  · intro h
    refine ⟨rfl, rfl, fun l hn => ?_⟩
    rw [hn] at h
    exact h
theorem foot_nil {g i : Nat} (h : Foot g (.slice none 0 0) i) : i = g := by
  rcases h with h | h
  · exact h
  · cases h
theorem bare_fields {m : Nat → F} {t : Nat} (hok : ∀ p ∈ places, (m p.2).Ok ∧ (m p.2).Few) : ∀ f ∈ fieldsOf (bareM m) (named t), f.Ok ∧ f.Few := by
  intro f hf
  obtain ⟨p, hp, rfl⟩ := mem_fields hf
  have h := hok p (named_places' t p hp)
  exact ⟨bare_ok h.1, bare_few h.2⟩
theorem bare_type {m : Nat → F} {t : Nat} (h : m 0 = .num 1 t) : bareM m 0 = .num 1 t := by
  show bareF (m 0) = _
  rw [h]
  rfl
set_option maxHeartbeats 4000000 in
theorem rsame_any (t tag t' tag' : Nat) (ca cb : Array Value) (m m' : Nat → F) (w : World) (hm : RMgAt w 0 w.heap.size ca m) (hm' : RMgAt w 0 w.heap.size cb m')
    (h0 : m 0 = .num 1 t) (h1 : m 1 = .num 2 tag) (h0' : m' 0 = .num 1 t') (h1' : m' 1 = .num 2 tag') (hok : ∀ p ∈ places, (m p.2).Ok ∧ (m p.2).Few) (hok' : ∀ p ∈ places, (m' p.2).Ok ∧ (m' p.2).Few) (ht : isType t) :
    Calls Tryz.prog 7 #[.agg ca, .agg cb] w (Tells w (sameM t tag t' tag' m m')) := by
  obtain ⟨V, hV⟩ : ∃ V, V = (w.alloc (.cells ca 43)).alloc (.cells cb 43) := ⟨_, rfl⟩
  have kV : Only (fun _ => False) w V := by rw [hV]; exact ((Only.refl _ w).alloc _).alloc _
  have hA : Has V w.heap.size 43 ca := by rw [hV]; exact (Has.new w _ _).alloc _
  have hB : Has V (w.heap.size + 1) 43 cb := by
    rw [hV]
    have := Has.new (w.alloc (.cells ca 43)) 43 cb
    simpa using this
  have sV : V.heap.size = w.heap.size + 2 := by rw [hV]; simp
  have e0 : ca[0]? = some (.int .u8 (t : Int)) := by have := hm.lies (.num 1, 0) (by decide); simp only [h0] at this; exact this
  have e1 : ca[1]? = some (.int .u16 (tag : Int)) := by have := hm.lies (.num 2, 1) (by decide); simp only [h1] at this; exact this
  have f0 : cb[0]? = some (.int .u8 (t' : Int)) := by have := hm'.lies (.num 1, 0) (by decide); simp only [h0'] at this; exact this
  have f1 : cb[1]? = some (.int .u16 (tag' : Int)) := by have := hm'.lies (.num 2, 1) (by decide); simp only [h1'] at this; exact this
  have c0 := (hA.cell 0).trans e0
  have c1 := (hA.cell 1).trans e1
  have d0 := (hB.cell 0).trans f0
  have d1 := (hB.cell 1).trans f1
  have KV := Lib.hid kV
  by_cases htt : t = t'
  · by_cases hgg : tag = tag'
    · subst htt hgg
      have dt : ((t : Int) != (t : Int)) = false := by simp
      have dg : ((tag : Int) != (tag : Int)) = false := by simp
      obtain ⟨W, hW⟩ : ∃ W, W = (V.alloc (.cells #[.slice none 0 0, .int .i64 0] 66)).alloc (.cells #[.slice none 0 0, .int .i64 0] 66) := ⟨_, rfl⟩
      have kW : Only (fun _ => False) V W := by rw [hW]; exact ((Only.refl _ V).alloc _).alloc _
      have sW : W.heap.size = w.heap.size + 4 := by rw [hW]; simp [sV]
      have oX : Has W (w.heap.size + 2) 66 #[.slice none 0 0, .int .i64 0] := by
        rw [hW]
        have := (Has.new V 66 #[.slice none 0 0, .int .i64 0]).alloc (.cells #[.slice none 0 0, .int .i64 0] 66)
        rw [sV] at this
        exact this
      have oY : Has W (w.heap.size + 3) 66 #[.slice none 0 0, .int .i64 0] := by
        rw [hW]
        have := Has.new (V.alloc (.cells #[.slice none 0 0, .int .i64 0] 66)) 66 #[.slice none 0 0, .int .i64 0]
        simp only [World.size_alloc, sV] at this
        exact this
      have nA := hA.only kW (fun h => h)
      have nB := hB.only kW (fun h => h)
      have kk : Only (fun _ => False) w W := kV.trans kW (fun _ _ h => h)
      obtain ⟨L, hL⟩ := kind_texts (hm.kind (.texts, 11) (by decide))
      obtain ⟨L', hL'⟩ := kind_texts (hm'.kind (.texts, 11) (by decide))
      simp only at hL hL'
      have fL := (hok (.texts, 11) (by decide)).2
      have fL' := (hok' (.texts, 11) (by decide)).2
      simp only [hL] at fL
      simp only [hL'] at fL'
      have HBa := Lib.hid (rbare_any 0 w.heap.size ca m L W (hm.keep (kk.keeps (Nat.le_refl _) (fun _ _ _ h => h))) hL fL.1 (by omega))
      have HBb := Lib.hid (fun (w2 : World) (k : Only (fun _ => False) w w2) => rbare_any 0 w.heap.size cb m' L' w2 (hm'.keep (k.keeps (Nat.le_refl _) (fun _ _ _ h => h))) hL' fL'.1 k.size)
      have HT := Lib.hid (fun (w2 : World) (k : Only (fun _ => False) w w2) => rtexts_any 0 w.heap.size t ca cb m m' w2 k.size (hm.keep (k.keeps (Nat.le_refl _) (fun _ _ _ h => h))) (hm'.keep (k.keeps (Nat.le_refl _) (fun _ _ _ h => h))) h0 (fun p hp => (hok p hp).2) ht)
      have HI := Lib.hid (same_iff (l := named t) (fun p hp => (hm.kind p (named_places' t p hp)).trans (hm'.kind p (named_places' t p hp)).symm) (fun p hp => hok p (named_places' t p hp)) (fun p hp => hok' p (named_places' t p hp)))
      have HFa := Lib.hid (bare_fields (t := t) hok)
      have HFb := Lib.hid (bare_fields (t := t) hok')
      have HTa := Lib.hid (bare_type h0)
      have HTb := Lib.hid (bare_type h0')
      have HZa := Lib.hid hm.size
      have HZb := Lib.hid hm'.size
      have KK := Lib.hid kk
      have OX := Lib.hid oX
      have OY := Lib.hid oY
      have NA' := Lib.hid nA
      have NB' := Lib.hid nB
      have NA := Lib.hid nA
      rw [hW, hV] at NA
      rw [hV] at c0 c1 d0 d1
      rw [hV] at hW
      have HW := Lib.hid hW.symm
      clear hm hm' h0 h1 h0' h1' hok hok' ht kV hA hB sV e0 e1 f0 f1 KV kW oX oY nA nB kk hL hL' fL fL' hW hV
      go_enter Tryz.func7, Tryz.ntmps7
      go_wp2_with (first
        | (refine load_struct Tryz.underlying43 rfl Tryz.refMsgSize w.heap.size ca (.tmp 2) rfl rfl rfl NA.out HZa.out ?_)
        | fail)
      rw [HW.out]
      clear HW NA c0 c1 d0 d1 dt dg
      refine HBa.out.mono ?_
      rintro e w1 ⟨ca1, rfl, an1⟩
      have k1 := Below.onlyNew an1.low
      have s1 := k1.size
      have x1 : ROutAt w1 (w.heap.size + 2) (w.heap.size + 2) (.slice none 0 0) [] 0 := ⟨OX.out.only k1 (fun h => h), World.ownsRow_nil _ _ _ _, Nat.le_refl _⟩
      have C1 := Lib.hid (rbody_two (w.heap.size + 2) (w.heap.size + 2) 0 w1.heap.size W.heap.size w1.heap.size 0 w.heap.size t (.slice none 0 0) ([], 0) ca1 (bareM m) w1 x1 (Nat.zero_le _) an1.mg an1.names ⟨Nat.le_refl _, fun i h1 h2 hf => by have := foot_nil hf; omega⟩ an1.qids ⟨by omega, fun i h1 h2 hf => by have := foot_nil hf; omega⟩ HTa.out HFa.out)
      have K1 := Lib.hid k1
      clear HBa an1 k1 x1 HTa HFa
      obtain ⟨Ba, hBa⟩ : ∃ B, B = (rAll ([], 0) (fieldsOf (bareM m) (named t))).1 := ⟨_, rfl⟩
      obtain ⟨bda, hbda⟩ : ∃ B, B = (rAll ([], 0) (fieldsOf (bareM m) (named t))).2 := ⟨_, rfl⟩
      obtain ⟨Bb, hBb⟩ : ∃ B, B = (rAll ([], 0) (fieldsOf (bareM m') (named t))).1 := ⟨_, rfl⟩
      obtain ⟨bdb, hbdb⟩ : ∃ B, B = (rAll ([], 0) (fieldsOf (bareM m') (named t))).2 := ⟨_, rfl⟩
      rw [← hBa, ← hbda] at C1
      rw [← hBa, ← hBb] at HI
      go_wp2_with fail
      refine C1.out.mono ?_
      rintro e w2 ⟨vx, rfl, o2, k2, q2⟩
      clear C1
      have k02 : Only (fun i => i = w.heap.size + 2) W w2 := (K1.out.mono (fun _ _ h => h.elim)).trans k2 (fun i _ h => foot_nil h)
      have kw2 : Only (fun _ => False) w w2 := KK.out.trans k02 (fun i hi h => by omega)
      have s2 := k2.size
      have nb2 := NB'.out.only k02 (by omega)
      have na2 := NA'.out.only k02 (by omega)
      have oy2 := OY.out.only k02 (by omega)
      have q2' : ∀ i, vx.ownBlock = some i → w1.heap.size ≤ i := fun i hi => by
        rcases q2 i hi with h | h
        · cases h
        · exact h
      have NB2 := Lib.hid nb2
      have NA2 := Lib.hid na2
      have OY2 := Lib.hid oy2
      have O2 := Lib.hid o2
      have Q2 := Lib.hid q2'
      have KW2 := Lib.hid kw2
      have CB := Lib.hid (HBb.out w2 kw2)
      clear k02 kw2 nb2 na2 oy2 o2 q2 q2' k2 HBb K1 OX OY NB' NA' KK
      go_wp2_with (first
        | (refine load_struct Tryz.underlying43 rfl Tryz.refMsgSize (w.heap.size + 1) cb (.tmp 3) rfl rfl rfl NB2.out HZb.out ?_)
        | fail)
      refine CB.out.mono ?_
      rintro e w3 ⟨cb1, rfl, an3⟩
      clear CB
      have k3 := Below.onlyNew an3.low
      have s3 := k3.size
      have y3 : ROutAt w3 (w.heap.size + 3) (w.heap.size + 3) (.slice none 0 0) [] 0 := ⟨OY2.out.only k3 (fun h => h), World.ownsRow_nil _ _ _ _, Nat.le_refl _⟩
      have C3 := Lib.hid (rbody_two (w.heap.size + 3) (w.heap.size + 3) 0 w3.heap.size w2.heap.size w3.heap.size 0 w.heap.size t (.slice none 0 0) ([], 0) cb1 (bareM m') w3 y3 (Nat.zero_le _) an3.mg an3.names ⟨Nat.le_refl _, fun i h1 h2 hf => by have := foot_nil hf; omega⟩ an3.qids ⟨by omega, fun i h1 h2 hf => by have := foot_nil hf; omega⟩ HTb.out HFb.out)
      rw [← hBb, ← hbdb] at C3
      have K3 := Lib.hid k3
      clear an3 k3 y3 HTb HFb OY2 hbda hbdb
      go_wp2_with fail
      refine C3.out.mono ?_
      rintro e w4 ⟨vy, rfl, o4, k4, q4⟩
      clear C3
      have k24 : Only (fun i => i = w.heap.size + 3) w2 w4 := (K3.out.mono (fun _ _ h => h.elim)).trans k4 (fun i _ h => foot_nil h)
      have kw4 : Only (fun _ => False) w w4 := KW2.out.trans k24 (fun i hi h => by omega)
      have s4 := k4.size
      have o2 := O2.out.only k24 (fun i hi h => by
        rcases hi with hi | hi
        · omega
        · have := Q2.out i hi
          omega)
      have na4 := NA2.out.only k24 (by omega)
      have nb4 := NB2.out.only k24 (by omega)
      have KW4 := Lib.hid kw4
      have HS : Hid (∀ w', Only (fun _ => False) w4 w' → w'.cell? ⟨w.heap.size + 2, 0, none⟩ = some vx ∧ (convert 22 9 vx).run Tryz.prog w' = .ok (.string (strOf Ba)) w' ∧ w'.cell? ⟨w.heap.size + 3, 0, none⟩ = some vy ∧ (convert 22 9 vy).run Tryz.prog w' = .ok (.string (strOf Bb)) w' ∧ Has w' w.heap.size 43 ca ∧ Has w' (w.heap.size + 1) 43 cb) := by
        intro w' k
        have x := o2.only k (fun _ _ h => h)
        have y := o4.only k (fun _ _ h => h)
        exact ⟨x.has.cell 0, run_str vx _ _ _ w' (owns_SlIs x.own), y.has.cell 0, run_str vy _ _ _ w' (owns_SlIs y.own), na4.only k (fun h => h), nb4.only k (fun h => h)⟩
      have KD : Hid (Only (fun _ => False) w4 w4.drew) := ⟨rfl, rfl, rfl, Nat.le_refl _, fun _ _ _ => rfl⟩
      clear k24 kw4 o2 o4 na4 nb4 k4 q4 NA2 NB2 O2 Q2 KW2 K3
      by_cases heq : Ba = Bb
      · subst heq
        have CT := Lib.hid (HT.out w4.drew (KW4.out.trans KD.out (fun _ _ h => h)))
        clear HT hBa hBb
        go_upto_region 7 with fail
        refine wp_region_held_drew (S := fun w' => w'.cell? ⟨w.heap.size + 2, 0, none⟩ = some vx ∧ (convert 22 9 vx).run Tryz.prog w' = .ok (.string (strOf Ba)) w' ∧ w'.cell? ⟨w.heap.size + 3, 0, none⟩ = some vy ∧ (convert 22 9 vy).run Tryz.prog w' = .ok (.string (strOf Ba)) w' ∧ Has w' w.heap.size 43 ca ∧ Has w' (w.heap.size + 1) 43 cb) (by kernel_rfl) ?_ (fun hHeld => ?_)
        · exact HS.out _ KD.out
        refine takeH (i := 0) (d := 31) (v := ?_) (by kernel_rfl) (by kernel_rfl) (by kernel_rfl) rfl (fun _ _ _ h => h) (by rfl) ?_ hHeld ?_
        rotate_left
        · intro o ho w hSw
          obtain ⟨s1, s2, s3, s4, s5, s6⟩ := hSw
          cases ho
          go_simp
          try with_reducible rfl
        simp only [Act.put, List.setIfInBounds_toArray, List.set_cons_zero, List.set_cons_succ]
        refine takeH (i := 1) (d := 32) (v := ?_) (by kernel_rfl) (by kernel_rfl) (by kernel_rfl) rfl (fun _ _ _ h => h) (by rfl) ?_ hHeld ?_
        rotate_left
        · intro o ho w hSw
          obtain ⟨s1, s2, s3, s4, s5, s6⟩ := hSw
          cases ho
          go_simp
          try with_reducible rfl
        simp only [Act.put, List.setIfInBounds_toArray, List.set_cons_zero, List.set_cons_succ]
        refine takeH (i := 2) (d := 33) (v := ?_) (by kernel_rfl) (by kernel_rfl) (by kernel_rfl) rfl (fun _ _ _ h => h) (by rfl) ?_ hHeld ?_
        rotate_left
        · intro o ho w hSw
          obtain ⟨s1, s2, s3, s4, s5, s6⟩ := hSw
          cases ho
          go_simp
          try with_reducible rfl
        simp only [Act.put, List.setIfInBounds_toArray, List.set_cons_zero, List.set_cons_succ]
        refine takeH (i := 3) (d := 34) (v := ?_) (by kernel_rfl) (by kernel_rfl) (by kernel_rfl) rfl (fun _ _ _ h => h) (by rfl) ?_ hHeld ?_
        rotate_left
        · intro o ho w hSw
          obtain ⟨s1, s2, s3, s4, s5, s6⟩ := hSw
          cases ho
          go_simp
          try with_reducible rfl
        simp only [Act.put, List.setIfInBounds_toArray, List.set_cons_zero, List.set_cons_succ]
        refine takeH (i := 4) (d := 35) (v := ?_) (by kernel_rfl) (by kernel_rfl) (by kernel_rfl) rfl (fun _ _ _ h => h) (by rfl) ?_ hHeld ?_
        rotate_left
        · intro o ho w hSw
          obtain ⟨s1, s2, s3, s4, s5, s6⟩ := hSw
          cases ho
          go_simp
          try with_reducible rfl
        simp only [Act.put, List.setIfInBounds_toArray, List.set_cons_zero, List.set_cons_succ]
        refine takeH (i := 5) (d := 36) (v := ?_) (by kernel_rfl) (by kernel_rfl) (by kernel_rfl) rfl (fun _ _ _ h => h) (by rfl) ?_ hHeld ?_
        rotate_left
        · intro o ho w hSw
          obtain ⟨s1, s2, s3, s4, s5, s6⟩ := hSw
          cases ho
          go_simp
          try with_reducible rfl
        simp only [Act.put, List.setIfInBounds_toArray, List.set_cons_zero, List.set_cons_succ]
        refine takeH (i := 6) (d := 37) (v := ?_) (by kernel_rfl) (by kernel_rfl) (by kernel_rfl) rfl (fun _ _ _ h => h) (by rfl) ?_ hHeld ?_
        rotate_left
        · intro o ho w hSw
          obtain ⟨s1, s2, s3, s4, s5, s6⟩ := hSw
          cases ho
          go_simp
          try with_reducible rfl
        simp only [Act.put, List.setIfInBounds_toArray, List.set_cons_zero, List.set_cons_succ]
        refine takeH (i := 7) (d := 38) (v := ?_) (by kernel_rfl) (by kernel_rfl) (by kernel_rfl) rfl (fun _ _ _ h => h) (by rfl) ?_ hHeld ?_
        rotate_left
        · intro o ho w hSw
          obtain ⟨s1, s2, s3, s4, s5, s6⟩ := hSw
          cases ho
          go_simp
          try with_reducible rfl
        simp only [Act.put, List.setIfInBounds_toArray, List.set_cons_zero, List.set_cons_succ]
        refine takeH (i := 8) (d := 39) (v := ?_) (by kernel_rfl) (by kernel_rfl) (by kernel_rfl) rfl (fun _ _ _ h => h) (by rfl) ?_ hHeld ?_
        rotate_left
        · intro o ho w hSw
          obtain ⟨s1, s2, s3, s4, s5, s6⟩ := hSw
          cases ho
          go_simp
          try with_reducible rfl
        simp only [Act.put, List.setIfInBounds_toArray, List.set_cons_zero, List.set_cons_succ]
        refine takeH (i := 9) (d := 40) (v := ?_) (by kernel_rfl) (by kernel_rfl) (by kernel_rfl) rfl (fun _ _ _ h => h) (by rfl) ?_ hHeld ?_
        rotate_left
        · intro o ho w hSw
          obtain ⟨s1, s2, s3, s4, s5, s6⟩ := hSw
          cases ho
          go_simp
          try with_reducible rfl
        simp only [Act.put, List.setIfInBounds_toArray, List.set_cons_zero, List.set_cons_succ]
        refine takeH (i := 10) (d := 41) (v := ?_) (by kernel_rfl) (by kernel_rfl) (by kernel_rfl) rfl (fun _ _ _ h => h) (by rfl) ?_ hHeld ?_
        rotate_left
        · intro o ho w hSw
          obtain ⟨s1, s2, s3, s4, s5, s6⟩ := hSw
          cases ho
          go_simp
          try with_reducible rfl
        simp only [Act.put, List.setIfInBounds_toArray, List.set_cons_zero, List.set_cons_succ]
        refine takeH (i := 11) (d := 42) (v := ?_) (by kernel_rfl) (by kernel_rfl) (by kernel_rfl) rfl (fun _ _ _ h => h) (by rfl) ?_ hHeld ?_
        rotate_left
        · intro o ho w hSw
          obtain ⟨s1, s2, s3, s4, s5, s6⟩ := hSw
          cases ho
          go_simp
          try with_reducible rfl
        simp only [Act.put, List.setIfInBounds_toArray, List.set_cons_zero, List.set_cons_succ]
        refine takeH (i := 12) (d := 43) (v := .agg ca) (by kernel_rfl) (by kernel_rfl) (by kernel_rfl) rfl (fun _ _ _ h => h) (by rfl) ?_ hHeld ?_
        · intro o ho w hSw
          obtain ⟨s1, s2, s3, s4, s5, s6⟩ := hSw
          cases ho
          exact exec_load_row rfl rfl s5 Tryz.underlying43 rfl (by rw [HZa.out]; exact Tryz.refMsgSize)
        simp only [Act.put, List.setIfInBounds_toArray, List.set_cons_zero, List.set_cons_succ]
        refine takeH (i := 13) (d := 44) (v := .agg cb) (by kernel_rfl) (by kernel_rfl) (by kernel_rfl) rfl (fun _ _ _ h => h) (by rfl) ?_ hHeld ?_
        · intro o ho w hSw
          obtain ⟨s1, s2, s3, s4, s5, s6⟩ := hSw
          cases ho
          exact exec_load_row rfl rfl s6 Tryz.underlying43 rfl (by rw [HZb.out]; exact Tryz.refMsgSize)
        simp only [Act.put, List.setIfInBounds_toArray, List.set_cons_zero, List.set_cons_succ]
        refine wpAnyH_ready (rs := [14]) (by kernel_rfl) (by simp) ?_
        refine AllReadyH.cons rfl (fun K hK => ?_) AllReadyH.nil
        go_simp
        refine (CT.out).mono ?_
        rintro e w5 ⟨⟨bb, rfl, hbb⟩, b5⟩
        have K5 := Lib.hid (KD.out.trans (Below.onlyNew b5) (fun _ _ h => h))
        have HBB := Lib.hid hbb
        clear b5 hbb CT KD
        try go_wp2_with fail
        refine hK.out _ _ ?_ (fun hHeld => ?_)
        · exact HS.out _ K5.out
        clear hK K
        refine takeH (i := 15) (d := 46) (v := ?_) (by kernel_rfl) (by kernel_rfl) (by kernel_rfl) rfl (fun _ _ _ h => h) (by rfl) ?_ hHeld ?_
        rotate_left
        · intro o ho w hSw
          obtain ⟨s1, s2, s3, s4, s5, s6⟩ := hSw
          cases ho
          go_simp
          try with_reducible rfl
        simp only [Act.put, List.setIfInBounds_toArray, List.set_cons_zero, List.set_cons_succ]
        refine takeH (i := 16) (d := 4) (v := ?_) (by kernel_rfl) (by kernel_rfl) (by kernel_rfl) rfl (fun _ _ _ h => h) (by rfl) ?_ hHeld ?_
        rotate_left
        · intro o ho w hSw
          obtain ⟨s1, s2, s3, s4, s5, s6⟩ := hSw
          cases ho
          go_simp
          try with_reducible rfl
        simp only [Act.put, List.setIfInBounds_toArray, List.set_cons_zero, List.set_cons_succ]
        refine wpAnyH_done (by kernel_rfl) ?_ _
        have R : Hid (Tells w (sameM t tag t tag m m') (.returned (.bool bb)) w5) := by
          refine ⟨⟨bb, rfl, ?_⟩, (KW4.out.trans K5.out (fun _ _ h => h)).below (Nat.le_refl _) (fun _ _ h => h)⟩
          rw [same_named, ← HI.out, HBB.out]
          exact ⟨fun h => ⟨trivial, h⟩, fun h => h.2⟩
        clear HS K5 KW4 HBB HI hHeld
        go_wp2
        go_ret
        exact R.out
      · have gP : ((strOf Ba).toList = (strOf Bb).toList) = False := str_ne heq
        have gB : ((strOf Ba).toList == (strOf Bb).toList) = false := by rw [strOf_list, strOf_list]; simpa using heq
        have R : Hid (Tells w (sameM t tag t tag m m') (.returned (.bool false)) w4.drew) := by
          refine ⟨⟨false, rfl, ?_⟩, (KW4.out.trans KD.out (fun _ _ h => h)).below (Nat.le_refl _) (fun _ _ h => h)⟩
          rw [same_named, ← HI.out]
          simp [heq]
        clear HT hBa hBb HI KW4
        go_upto_region 7 with fail
        refine wp_region_held_drew (S := fun w' => w'.cell? ⟨w.heap.size + 2, 0, none⟩ = some vx ∧ (convert 22 9 vx).run Tryz.prog w' = .ok (.string (strOf Ba)) w' ∧ w'.cell? ⟨w.heap.size + 3, 0, none⟩ = some vy ∧ (convert 22 9 vy).run Tryz.prog w' = .ok (.string (strOf Bb)) w' ∧ Has w' w.heap.size 43 ca ∧ Has w' (w.heap.size + 1) 43 cb) (by kernel_rfl) ?_ (fun hHeld => ?_)
        · exact HS.out _ KD.out
        refine takeH (i := 0) (d := 31) (v := ?_) (by kernel_rfl) (by kernel_rfl) (by kernel_rfl) rfl (fun _ _ _ h => h) (by rfl) ?_ hHeld ?_
        rotate_left
        · intro o ho w hSw
          obtain ⟨s1, s2, s3, s4, s5, s6⟩ := hSw
          cases ho
          go_simp
          try with_reducible rfl
        simp only [Act.put, List.setIfInBounds_toArray, List.set_cons_zero, List.set_cons_succ]
        refine takeH (i := 1) (d := 32) (v := ?_) (by kernel_rfl) (by kernel_rfl) (by kernel_rfl) rfl (fun _ _ _ h => h) (by rfl) ?_ hHeld ?_
        rotate_left
        · intro o ho w hSw
          obtain ⟨s1, s2, s3, s4, s5, s6⟩ := hSw
          cases ho
          go_simp
          try with_reducible rfl
        simp only [Act.put, List.setIfInBounds_toArray, List.set_cons_zero, List.set_cons_succ]
        refine takeH (i := 2) (d := 33) (v := ?_) (by kernel_rfl) (by kernel_rfl) (by kernel_rfl) rfl (fun _ _ _ h => h) (by rfl) ?_ hHeld ?_
        rotate_left
        · intro o ho w hSw
          obtain ⟨s1, s2, s3, s4, s5, s6⟩ := hSw
          cases ho
          go_simp
          try with_reducible rfl
        simp only [Act.put, List.setIfInBounds_toArray, List.set_cons_zero, List.set_cons_succ]
        refine takeH (i := 3) (d := 34) (v := ?_) (by kernel_rfl) (by kernel_rfl) (by kernel_rfl) rfl (fun _ _ _ h => h) (by rfl) ?_ hHeld ?_
        rotate_left
        · intro o ho w hSw
          obtain ⟨s1, s2, s3, s4, s5, s6⟩ := hSw
          cases ho
          go_simp
          try with_reducible rfl
        simp only [Act.put, List.setIfInBounds_toArray, List.set_cons_zero, List.set_cons_succ]
        refine takeH (i := 4) (d := 35) (v := ?_) (by kernel_rfl) (by kernel_rfl) (by kernel_rfl) rfl (fun _ _ _ h => h) (by rfl) ?_ hHeld ?_
        rotate_left
        · intro o ho w hSw
          obtain ⟨s1, s2, s3, s4, s5, s6⟩ := hSw
          cases ho
          go_simp
          try with_reducible rfl
        simp only [Act.put, List.setIfInBounds_toArray, List.set_cons_zero, List.set_cons_succ]
        refine takeH (i := 5) (d := 36) (v := ?_) (by kernel_rfl) (by kernel_rfl) (by kernel_rfl) rfl (fun _ _ _ h => h) (by rfl) ?_ hHeld ?_
        rotate_left
        · intro o ho w hSw
          obtain ⟨s1, s2, s3, s4, s5, s6⟩ := hSw
          cases ho
          go_simp
          try with_reducible rfl
        simp only [Act.put, List.setIfInBounds_toArray, List.set_cons_zero, List.set_cons_succ]
        refine takeH (i := 6) (d := 37) (v := ?_) (by kernel_rfl) (by kernel_rfl) (by kernel_rfl) rfl (fun _ _ _ h => h) (by rfl) ?_ hHeld ?_
        rotate_left
        · intro o ho w hSw
          obtain ⟨s1, s2, s3, s4, s5, s6⟩ := hSw
          cases ho
          go_simp
          try with_reducible rfl
        simp only [Act.put, List.setIfInBounds_toArray, List.set_cons_zero, List.set_cons_succ]
        refine takeH (i := 7) (d := 38) (v := ?_) (by kernel_rfl) (by kernel_rfl) (by kernel_rfl) rfl (fun _ _ _ h => h) (by rfl) ?_ hHeld ?_
        rotate_left
        · intro o ho w hSw
          obtain ⟨s1, s2, s3, s4, s5, s6⟩ := hSw
          cases ho
          go_simp
          try with_reducible rfl
        simp only [Act.put, List.setIfInBounds_toArray, List.set_cons_zero, List.set_cons_succ]
        refine takeH (i := 8) (d := 39) (v := ?_) (by kernel_rfl) (by kernel_rfl) (by kernel_rfl) rfl (fun _ _ _ h => h) (by rfl) ?_ hHeld ?_
        rotate_left
        · intro o ho w hSw
          obtain ⟨s1, s2, s3, s4, s5, s6⟩ := hSw
          cases ho
          go_simp
          try with_reducible rfl
        simp only [Act.put, List.setIfInBounds_toArray, List.set_cons_zero, List.set_cons_succ]
        refine takeH (i := 9) (d := 40) (v := ?_) (by kernel_rfl) (by kernel_rfl) (by kernel_rfl) rfl (fun _ _ _ h => h) (by rfl) ?_ hHeld ?_
        rotate_left
        · intro o ho w hSw
          obtain ⟨s1, s2, s3, s4, s5, s6⟩ := hSw
          cases ho
          go_simp
          try with_reducible rfl
        simp only [Act.put, List.setIfInBounds_toArray, List.set_cons_zero, List.set_cons_succ]
        refine takeH (i := 10) (d := 41) (v := ?_) (by kernel_rfl) (by kernel_rfl) (by kernel_rfl) rfl (fun _ _ _ h => h) (by rfl) ?_ hHeld ?_
        rotate_left
        · intro o ho w hSw
          obtain ⟨s1, s2, s3, s4, s5, s6⟩ := hSw
          cases ho
          go_simp
          try with_reducible rfl
        simp only [Act.put, List.setIfInBounds_toArray, List.set_cons_zero, List.set_cons_succ]
        refine takeH (i := 11) (d := 42) (v := ?_) (by kernel_rfl) (by kernel_rfl) (by kernel_rfl) rfl (fun _ _ _ h => h) (by rfl) ?_ hHeld ?_
        rotate_left
        · intro o ho w hSw
          obtain ⟨s1, s2, s3, s4, s5, s6⟩ := hSw
          cases ho
          go_simp
          try with_reducible rfl
        simp only [Act.put, List.setIfInBounds_toArray, List.set_cons_zero, List.set_cons_succ]
        refine skipH (i := 12) (d := 43) (by kernel_rfl) (by kernel_rfl) (by kernel_rfl) rfl (fun _ _ _ h => h) (by rfl) hHeld ?_
        simp only [Act.put, List.setIfInBounds_toArray, List.set_cons_zero, List.set_cons_succ]
        refine skipH (i := 13) (d := 44) (by kernel_rfl) (by kernel_rfl) (by kernel_rfl) rfl (fun _ _ _ h => h) (by rfl) hHeld ?_
        simp only [Act.put, List.setIfInBounds_toArray, List.set_cons_zero, List.set_cons_succ]
        refine skipH (i := 14) (d := 45) (by kernel_rfl) (by kernel_rfl) (by kernel_rfl) rfl (fun _ _ _ h => h) (by rfl) hHeld ?_
        simp only [Act.put, List.setIfInBounds_toArray, List.set_cons_zero, List.set_cons_succ]
        refine takeH (i := 15) (d := 46) (v := ?_) (by kernel_rfl) (by kernel_rfl) (by kernel_rfl) rfl (fun _ _ _ h => h) (by rfl) ?_ hHeld ?_
        rotate_left
        · intro o ho w hSw
          obtain ⟨s1, s2, s3, s4, s5, s6⟩ := hSw
          cases ho
          go_simp
          try with_reducible rfl
        simp only [Act.put, List.setIfInBounds_toArray, List.set_cons_zero, List.set_cons_succ]
        refine takeH (i := 16) (d := 4) (v := ?_) (by kernel_rfl) (by kernel_rfl) (by kernel_rfl) rfl (fun _ _ _ h => h) (by rfl) ?_ hHeld ?_
        rotate_left
        · intro o ho w hSw
          obtain ⟨s1, s2, s3, s4, s5, s6⟩ := hSw
          cases ho
          go_simp
          try with_reducible rfl
        simp only [Act.put, List.setIfInBounds_toArray, List.set_cons_zero, List.set_cons_succ]
        refine wpAnyH_done (by kernel_rfl) ?_ _
        clear HS KD hHeld
        go_wp2
        go_ret
        exact R.out
    · subst htt
      have dt : ((t : Int) != (t : Int)) = false := by simp
      have dg : ((tag : Int) != (tag' : Int)) = true := by simp; omega
      rw [hV] at c0 c1 d0 d1
      have HV := Lib.hid hV.symm
      have HN : Hid (¬ sameM t tag t tag' m m') := fun h => hgg h.2.1
      clear hm hm' h0 h1 h0' h1' hok hok' ht kV hA hB sV e0 e1 f0 f1 hV hgg
      go_enter Tryz.func7, Tryz.ntmps7
      go_wp2
      go_ret
      rw [HV.out]
      exact ⟨⟨_, rfl, by simpa using HN.out⟩, KV.out.below (Nat.le_refl _) (fun _ _ h => h)⟩
  · have dt : ((t : Int) != (t' : Int)) = true := by simp; omega
    rw [hV] at c0 c1 d0 d1
    have HV := Lib.hid hV.symm
    have HN : Hid (¬ sameM t tag t' tag' m m') := fun h => htt h.1
    clear hm hm' h0 h1 h0' h1' hok hok' ht kV hA hB sV e0 e1 f0 f1 hV htt
    go_enter Tryz.func7, Tryz.ntmps7
    go_wp2
    go_ret
    rw [HV.out]
    exact ⟨⟨_, rfl, by simpa using HN.out⟩, KV.out.below (Nat.le_refl _) (fun _ _ h => h)⟩
end Go.Proofs.YtepiifbleoimkaaGreatDoor
