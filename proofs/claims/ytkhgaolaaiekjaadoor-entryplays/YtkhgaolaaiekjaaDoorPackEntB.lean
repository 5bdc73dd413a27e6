/-
  A row of entries of one's own, cut at a place: what stands ahead of it, what stands from it on.
  Package entry: Put.
  Package entry: Put, Cut.
-/
import Derived.Test.YtkhgaolaaiekjaaDoorEntI
import Derived.Test.YtkhgaolaaiekjaaDoorPackEntC
import Derived.Test.YtkhgaolaaiekjaaDoorPackEntA
namespace Go.Proofs.YtkhgaolaaiekjaaDoor
open Go.RowKit Go.Lib
set_option maxRecDepth 100000

theorem enC_take : ∀ (l : List En) (k : Nat), enC (l.take k) = (enC l).take (k * 2)
  | [], k => by simp [enC]
  | x :: l, 0 => by simp [enC]
  | x :: l, k + 1 => by
    have := enC_take l k
    rw [List.take_succ_cons, show (k + 1) * 2 = k * 2 + 2 from by omega]
    show En.cells x ++ enC (l.take k) = List.take (k * 2 + 2) (En.cells x ++ enC l)
    rw [this]
    rfl
theorem enC_drop : ∀ (l : List En) (k : Nat), enC (l.drop k) = (enC l).drop (k * 2)
  | [], k => by simp [enC]
  | x :: l, 0 => by simp [enC]
  | x :: l, k + 1 => by
    have := enC_drop l k
    rw [List.drop_succ_cons, show (k + 1) * 2 = k * 2 + 2 from by omega]
    show enC (l.drop k) = List.drop (k * 2 + 2) (En.cells x ++ enC l)
    rw [this]
    rfl
section
variable {w : World} {B g c c' : Nat} {e : TypeId} {l : List En}
theorem own_front (h : w.ownsRow B e 2 (.slice (some ⟨g, 0, none⟩) l.length c) l.length (enC l)) (k : Nat) : RwIs w (fun i => i = g) k (.slice (some ⟨g, 0, none⟩) k c') (enC (l.take k)) := by
  refine ⟨_, _, rfl, fun _ => ⟨_, rfl, rfl, (owns_lt h (i := g) rfl).2, fun j u hu => ?_⟩⟩
  rw [enC_take, List.getElem?_take] at hu
  split at hu
  · exact h.cells (g := g) rfl j u hu
  · cases hu
theorem own_back (h : w.ownsRow B e 2 (.slice (some ⟨g, 0, none⟩) l.length c) l.length (enC l)) (hc : l.length ≤ c) (d : Nat) : RwIs w (fun i => i = g) (l.length - d) (.slice (if c = d then some ⟨g, 0, none⟩ else some ⟨g, d * 2, none⟩) (l.length - d) c') (enC (l.drop d)) := by
  refine ⟨_, _, rfl, fun hn => ?_⟩
  rw [enC_length, List.length_drop] at hn
  rw [if_neg (by omega)]
  refine ⟨_, rfl, rfl, (owns_lt h (i := g) rfl).2, fun j u hu => ?_⟩
  rw [enC_drop, List.getElem?_drop] at hu
  have := h.cells (g := g) rfl (d * 2 + j) u hu
  rw [← this]
  congr 1
  unfold Addr.add
  by_cases h0 : j = 0
  · subst h0
    by_cases h1 : d = 0
    · subst h1
      rfl
    · have h2 : ¬ d * 2 = 0 := by omega
      simp [h2]
  · simp [h0]
end
end Go.Proofs.YtkhgaolaaiekjaaDoor
namespace Go.Proofs.YtkhgaolaaiekjaaDoor
open Go.RowKit Go.Lib
set_option maxRecDepth 100000

/-- What stands ahead of a place, what stands from it on. -/
theorem EsIs.front {w : World} {E : Nat → Prop} {A : Option Addr} {c : Nat} {l : List En} (h : EsIs w E (.slice A l.length c) l) {k : Nat} (hk : k ≤ l.length) : EsIs w E (.slice A k c) (l.take k) := by
  obtain ⟨h1, h2⟩ := Caps.slice h.2
  obtain ⟨⟨A', c', e, h3⟩, _⟩ := h
  injection e with e1 _ e2
  subst e1 e2
  have hl : (l.take k).length = k := by rw [List.length_take]; omega
  refine ⟨⟨A, c, by rw [hl], fun h0 => ?_⟩, A, k, c, rfl, by omega, by simpa [maxLen] using h2⟩
  rw [enC_take] at h0 ⊢
  rw [List.length_take] at h0
  obtain ⟨ad, q1, q2, q3, q4⟩ := h3 (by omega)
  refine ⟨ad, q1, q2, q3, fun j u hu => q4 j u ?_⟩
  rw [List.getElem?_take] at hu
  split at hu
  · exact hu
  · cases hu
theorem EsIs.back {w : World} {E : Nat → Prop} {A : Option Addr} {c : Nat} {l : List En} (h : EsIs w E (.slice A l.length c) l) {d : Nat} (hd : d ≤ l.length) : EsIs w E (.slice (if c = d then A else Option.map (fun x => x.add (d * 2)) A) (l.length - d) (c - d)) (l.drop d) := by
  obtain ⟨h1, h2⟩ := Caps.slice h.2
  obtain ⟨⟨A', c', e, h3⟩, _⟩ := h
  injection e with e1 _ e2
  subst e1 e2
  have hl : (l.drop d).length = l.length - d := List.length_drop
  refine ⟨⟨_, _, by rw [hl], fun h0 => ?_⟩, _, l.length - d, c - d, rfl, by omega, by simp only [maxLen]; omega⟩
  rw [enC_drop] at h0 ⊢
  rw [List.length_drop, enC_length] at h0
  obtain ⟨ad, q1, q2, q3, q4⟩ := h3 (by rw [enC_length]; omega)
  rw [if_neg (by omega), q1]
  refine ⟨ad.add (d * 2), rfl, by rw [addr_block]; exact q2, by rw [addr_block]; exact q3, fun j u hu => ?_⟩
  rw [addr_add]
  refine q4 _ u ?_
  rw [← hu, List.getElem?_drop]
theorem EsIs.lit (W : World) (x : En) : EsIs (W.alloc (.cells #[.string (strOf x.n), .int .u32 (x.i : Int)] 38)) (fun i => i = W.heap.size) (.slice (some ⟨W.heap.size, 0, none⟩) 1 1) [x] := ⟨lit_ent W x, _, 1, 1, rfl, Nat.le_refl _, by simp [maxLen]⟩
theorem PsIs.of_row {w : World} {g : Nat} {t : TypeId} {cs : Array Value} (ps : List (Value × List En)) (hg : Has w g t cs) (hc : cs = (ps.map (·.1)).toArray) (h : ∀ p ∈ ps, ∃ E, EsIs w E p.1 p.2) (c : Nat) : PsIs w (.slice (some ⟨g, 0, none⟩) ps.length c) ps := by
  refine ⟨_, c, rfl, fun j hj => ⟨⟨_, rfl, hg.lt, ?_⟩, h _ (List.getElem_mem hj)⟩⟩
  rw [Addr.add_lit, Nat.zero_add]
  refine (hg.cell j).trans ?_
  rw [hc]
  simp [hj]
theorem PsIs.three {w : World} {g : Nat} {t : TypeId} {a b d : Value} {la lb ld : List En} {E F G : Nat → Prop} (hg : Has w g t #[a, b, d]) (h1 : EsIs w E a la) (h2 : EsIs w F b lb) (h3 : EsIs w G d ld) : PsIs w (.slice (some ⟨g, 0, none⟩) 3 3) [(a, la), (b, lb), (d, ld)] :=
  PsIs.of_row [(a, la), (b, lb), (d, ld)] hg rfl (fun p hp => by
    rcases List.mem_cons.1 hp with rfl | hp
    · exact ⟨_, h1⟩
    · rcases List.mem_cons.1 hp with rfl | hp
      · exact ⟨_, h2⟩
      · rw [List.mem_singleton.1 hp]
        exact ⟨_, h3⟩) 3
theorem PsIs.two {w : World} {g : Nat} {t : TypeId} {a b : Value} {la lb : List En} {E F : Nat → Prop} (hg : Has w g t #[a, b]) (h1 : EsIs w E a la) (h2 : EsIs w F b lb) : PsIs w (.slice (some ⟨g, 0, none⟩) 2 2) [(a, la), (b, lb)] :=
  PsIs.of_row [(a, la), (b, lb)] hg rfl (fun p hp => by
    rcases List.mem_cons.1 hp with rfl | hp
    · exact ⟨_, h1⟩
    · rw [List.mem_singleton.1 hp]
      exact ⟨_, h2⟩) 2
theorem Tryd.enterPut1e : ∀ args w, (callFunc 26 args).run Tryd.prog w = .ok (.enter 26 args) w := enters_of Tryd.func26 (by kernel_rfl) rfl
set_option maxHeartbeats 4000000 in
theorem eput1_any (E : Nat → Prop) (v : Value) (l : List En) (x : En) (w : World) (hT : Tabs w) (hg : Good l) (hl : l.length ≤ 1000) (hx : x.n.length ≤ 1000) (h : EsIs w E v l) (pl pe vb : Nat) (n1 : pl ≠ vb) (n2 : pe ≠ vb)
    (he : Has w pe 38 #[.string (strOf x.n), .int .u32 (x.i : Int)]) (hp : Has w pl 22 #[v]) (hv : Has w vb 22 #[.slice none 0 0]) :
    Calls Tryd.prog 26 #[.pointer (some ⟨pe, 0, none⟩), .pointer (some ⟨pl, 0, none⟩), .pointer (some ⟨vb, 0, none⟩)] w fun e w' => e = endsIn (putEr l x) ∧ EDec1 w vb (putL l x) w' := by
  have CM := mustentry_any x w hT (by omega)
  have CF : Hid (∀ w', Only (fun i => i = vb) w w' → w'.cell? ⟨pl, 0, none⟩ = some v ∧ w'.cell? ⟨pe, 0, none⟩ = some (.string (strOf x.n)) ∧ w'.cell? ⟨pe, 1, none⟩ = some (.int .u32 (x.i : Int))) := Lib.hid (fun w' k => by
    have c0 := (hp.only k n1).cell 0
    have c1 := (he.only k n2).cell 0
    have c2 := (he.only k n2).cell 1
    simp only [List.getElem?_toArray, List.getElem?_cons_zero, List.getElem?_cons_succ] at c0 c1 c2
    exact ⟨c0, c1, c2⟩)
  have KN : Hid (∀ w', Still w w' → EDec1 w vb [] w') := Lib.hid (fun w' k => ⟨k.mono (fun _ _ h => h.elim), _, k.has hv, World.ownsRow_nil _ _ _ _⟩)
  obtain ⟨y0, y1, y2⟩ := CF.out w (Only.refl _ w)
  by_cases hb : bad1 x = 0
  · rw [hb, endsIn_yes] at CM
    have CM := Lib.hid CM
    have CP : Hid (∀ w1, Still w w1 → Calls Tryd.prog 28 #[v, .string (strOf x.n)] w1 fun e w' => e = .returned (.tuple #[.int .i64 (posE x.n l : Int), .bool (decide (∃ y ∈ l, y.n = x.n))]) ∧ Still w1 w') := Lib.hid (fun w1 k => place_any E v l x.n w1 hg.2 (by omega) (EsIs.only h k (fun _ _ _ h => h)))
    obtain ⟨A, c, rfl⟩ := h.form
    by_cases ht : ∃ y ∈ l, y.n = x.n
    · have e1 : putEr l x = 7 := by unfold putEr; rw [if_neg (by simp [hb]), if_pos ht]
      have e2 : putL l x = [] := if_neg (by rw [e1]; decide)
      rw [e1, e2, endsIn_no (by decide)]
      rw [decide_eq_true ht] at CP
      generalize posE x.n l = P at *
      clear hb e1 e2 ht hg he hp hv h hT
      go_enter Tryd.func26, Tryd.ntmps26
      go_wp2_with fail
      refine CM.out.mono ?_
      rintro e w1 ⟨rfl, k1⟩
      have D := Lib.hid (CP.out _ k1)
      have K1 := Lib.hid k1
      clear y0 y1 y2
      obtain ⟨y0, y1, y2⟩ := CF.out _ (Only.mono k1 (fun _ _ h => h.elim))
      clear k1 CM CP
      go_wp2_with fail
      refine D.out.mono ?_
      rintro e w2 ⟨rfl, k2⟩
      have R := Lib.hid (KN.out _ (K1.out.trans k2))
      clear k2 D K1 KN CF y0 y1 y2
      go_wp2_with fail
      refine (must_no 7 _).mono ?_
      rintro e w' ⟨rfl, rfl⟩
      go_wp2
      exact ⟨rfl, rfl, R.out⟩
    · have e1 : putEr l x = 0 := by unfold putEr; rw [if_neg (by simp [hb]), if_neg ht]
      have e2 : putL l x = putE l x := if_pos e1
      rw [e1, e2, endsIn_yes]
      rw [decide_eq_false ht] at CP
      have HS : Hid (∀ w', Still w w' → EsIs w' E (.slice A l.length c) l) := Lib.hid (fun w' k => EsIs.only h k (fun _ _ _ h => h))
      have KB : Hid (∀ w2 u, Still w w2 → w2.ownsRow w.heap.size 38 2 u (putE l x).length (enC (putE l x)) → Has w2 vb 22 #[.slice none 0 0] ∧ EDec1 w vb (putE l x) (w2.setCell ⟨vb, 0, none⟩ u)) := Lib.hid (fun w2 u k o => put_box hv k o rfl)
      have HPL := posE_le x.n l
      obtain ⟨hc, hcm⟩ := Caps.slice h.2
      have HPE : Hid (putE l x = l.take (posE x.n l) ++ x :: l.drop (posE x.n l)) := Lib.hid rfl
      generalize posE x.n l = P at *
      clear hb e1 e2 ht hg he hp hv h hT KN
      go_enter Tryd.func26, Tryd.ntmps26
      go_wp2_with fail
      refine CM.out.mono ?_
      rintro e w1 ⟨rfl, k1⟩
      have D := Lib.hid (CP.out _ k1)
      have K1 := Lib.hid k1
      clear y0 y1 y2
      obtain ⟨y0, y1, y2⟩ := CF.out _ (Only.mono k1 (fun _ _ h => h.elim))
      clear k1 CM CP
      go_wp2_with fail
      refine D.out.mono ?_
      rintro e W ⟨rfl, k2⟩
      have KW := Lib.hid (K1.out.trans k2)
      clear k2 D K1 y0 y1 y2
      go_wp2_with fail
      refine (must_yes 7 _).mono ?_
      rintro e w' ⟨rfl, rfl⟩
      have CF2 : Hid (∀ w', Only (fun i => i = vb) W w' → w'.cell? ⟨pl, 0, none⟩ = some (.slice A l.length c) ∧ w'.cell? ⟨pe, 0, none⟩ = some (.string (strOf x.n)) ∧ w'.cell? ⟨pe, 1, none⟩ = some (.int .u32 (x.i : Int))) := Lib.hid (fun w' k => CF.out w' (Only.trans (Only.mono KW.out (fun _ _ h => h.elim)) k (fun _ _ h => h)))
      clear CF
      have CF := CF2
      clear CF2
      have i0 : (0 : Int) ≤ (P : Int) := by omega
      have i1 : (P : Int) ≤ (c : Int) := by omega
      have i2 : (P : Int) ≤ (l.length : Int) := by omega
      have i3 : (l.length : Int) ≤ (c : Int) := by omega
      have EF : Hid (∀ w', Still W w' → EsIs w' E (.slice A P c) (l.take P) ∧ EsIs w' E (.slice (if c = P then A else Option.map (fun x => x.add (P * 2)) A) (l.length - P) (c - P)) (l.drop P)) := Lib.hid (fun w' k => ⟨EsIs.front (HS.out w' (KW.out.trans k)) HPL, EsIs.back (HS.out w' (KW.out.trans k)) HPL⟩)
      clear HS
      go_wp2_with fail
      refine wp_region_held_drew (S := fun w' => Only (fun i => i = vb) W w') (by kernel_rfl) ?_ (fun hHeld => ?_)
      · exact (Only.refl (fun i => i = vb) W).drew
      refine takeH (i := 0) (d := 17) (v := ?_) (by kernel_rfl) (by kernel_rfl) (by kernel_rfl) rfl (fun _ _ _ h => h) (by rfl) ?_ hHeld ?_
      rotate_left
      · intro o ho w hSw
        cases ho
        obtain ⟨y0, y1, y2⟩ := CF.out _ hSw
        go_simp
        try with_reducible rfl
      simp only [Act.put, List.setIfInBounds_toArray, List.set_cons_zero, List.set_cons_succ]
      refine takeH (i := 1) (d := 18) (v := ?_) (by kernel_rfl) (by kernel_rfl) (by kernel_rfl) rfl (fun _ _ _ h => h) (by rfl) ?_ hHeld ?_
      rotate_left
      · intro o ho w hSw
        cases ho
        go_simp
        try with_reducible rfl
      simp only [Act.put, List.setIfInBounds_toArray, List.set_cons_zero, List.set_cons_succ]
      refine takeH (i := 6) (d := 23) (v := ?_) (by kernel_rfl) (by kernel_rfl) (by kernel_rfl) rfl (fun _ _ _ h => h) (by rfl) ?_ hHeld ?_
      rotate_left
      · intro o ho w hSw
        cases ho
        go_simp
        try with_reducible rfl
      simp only [Act.put, List.setIfInBounds_toArray, List.set_cons_zero, List.set_cons_succ]
      refine takeH (i := 3) (d := 20) (v := ?_) (by kernel_rfl) (by kernel_rfl) (by kernel_rfl) rfl (fun _ _ _ h => h) (by rfl) ?_ hHeld ?_
      rotate_left
      · intro o ho w hSw
        cases ho
        obtain ⟨y0, y1, y2⟩ := CF.out _ hSw
        go_simp
        try with_reducible rfl
      simp only [Act.put, List.setIfInBounds_toArray, List.set_cons_zero, List.set_cons_succ]
      refine takeH (i := 5) (d := 22) (v := ?_) (by kernel_rfl) (by kernel_rfl) (by kernel_rfl) rfl (fun _ _ _ h => h) (by rfl) ?_ hHeld ?_
      rotate_left
      · intro o ho w hSw
        cases ho
        obtain ⟨y0, y1, y2⟩ := CF.out _ hSw
        go_simp
        try with_reducible rfl
      simp only [Act.put, List.setIfInBounds_toArray, List.set_cons_zero, List.set_cons_succ]
      refine takeH (i := 2) (d := 19) (v := ?_) (by kernel_rfl) (by kernel_rfl) (by kernel_rfl) rfl (fun _ _ _ h => h) (by rfl) ?_ hHeld ?_
      rotate_left
      · intro o ho w hSw
        cases ho
        go_simp
        try with_reducible rfl
      simp only [Act.put, List.setIfInBounds_toArray, List.set_cons_zero, List.set_cons_succ]
      refine takeH (i := 7) (d := 24) (v := ?_) (by kernel_rfl) (by kernel_rfl) (by kernel_rfl) rfl (fun _ _ _ h => h) (by rfl) ?_ hHeld ?_
      rotate_left
      · intro o ho w hSw
        cases ho
        go_simp
        try with_reducible rfl
      simp only [Act.put, List.setIfInBounds_toArray, List.set_cons_zero, List.set_cons_succ]
      generalize (if c = P then A else Option.map (fun x => x.add (P * 2)) A) = A3 at *
      obtain ⟨W3, hW3⟩ : ∃ W3, W3 = ((W.alloc (.cells #[.string (strOf x.n), .int .u32 (x.i : Int)] 38)).alloc (.cells #[.slice A P c, .slice (some ⟨W.heap.size, 0, none⟩) 1 1, .slice A3 (l.length - P) (c - P)] 22)).drew := ⟨_, rfl⟩
      have K3 : Still W W3 := by rw [hW3]; exact (((Still.refl W).alloc _).alloc _).drew
      have B3 : Has W3 (W.heap.size + 1) 22 #[.slice A P c, .slice (some ⟨W.heap.size, 0, none⟩) 1 1, .slice A3 (l.length - P) (c - P)] := by
        have := (Has.new (W.alloc (.cells #[.string (strOf x.n), .int .u32 (x.i : Int)] 38)) 22 #[.slice A P c, .slice (some ⟨W.heap.size, 0, none⟩) 1 1, .slice A3 (l.length - P) (c - P)]).drew
        rw [hW3]
        simpa using this
      have L3 : EsIs W3 (fun i => i = W.heap.size) (.slice (some ⟨W.heap.size, 0, none⟩) 1 1) [x] := EsIs.only (EsIs.lit W x) (show Still _ W3 by rw [hW3]; exact ((Still.refl _).alloc _).drew) (fun _ _ _ h => h)
      have RP : rowsP [(Value.slice A P c, l.take P), (.slice (some ⟨W.heap.size, 0, none⟩) 1 1, [x]), (.slice A3 (l.length - P) (c - P), l.drop P)] = putE l x := by rw [HPE.out]; simp [rowsP]
      have CC := concat_any (.slice (some ⟨W.heap.size + 1, 0, none⟩) 3 3) [(Value.slice A P c, l.take P), (.slice (some ⟨W.heap.size, 0, none⟩) 1 1, [x]), (.slice A3 (l.length - P) (c - P), l.drop P)] W3
        (PsIs.three B3 (EF.out _ K3).1 L3 (EF.out _ K3).2)
        (by simp) (by rw [RP, putE_length]; omega)
      rw [RP] at CC
      have CC := Lib.hid CC
      have K3 := Lib.hid K3
      rw [hW3] at CC K3
      clear RP L3 B3 hW3 HPE EF
      refine wpAnyH_ready (rs := [4]) (by kernel_rfl) (by simp) ?_
      refine AllReadyH.cons rfl (fun K hK => ?_) AllReadyH.nil
      go_simp
      refine hK.out _ _ ?_ (fun hHeld => ?_)
      · exact (Only.refl (fun i => i = vb) W).drew.alloc _
      clear hK K
      refine wpAnyH_ready (rs := [8]) (by kernel_rfl) (by simp) ?_
      refine AllReadyH.cons rfl (fun K hK => ?_) AllReadyH.nil
      go_simp
      refine hK.out _ _ ?_ (fun hHeld => ?_)
      · exact ((Only.refl (fun i => i = vb) W).drew.alloc _).alloc _
      clear hK K
      refine wpAnyH_ready (rs := [9]) (by kernel_rfl) (by simp) ?_
      refine AllReadyH.cons rfl (fun K hK => ?_) AllReadyH.nil
      go_simp
      refine CC.out.mono ?_
      rintro e w9 ⟨V, rfl, o9, k9⟩
      have KK := Lib.hid (K3.out.trans k9)
      obtain ⟨hb9, r9⟩ := KB.out w9 V (KW.out.trans KK.out) (owns_base o9 (KW.out.trans K3.out).size)
      have R := Lib.hid r9
      have x0 := hb9.cell 0
      have y0 := hb9.frozen 0
      simp only [List.getElem?_toArray, List.getElem?_cons_zero] at x0
      obtain ⟨A9, n9, c9, rfl⟩ := owns_form o9
      clear hb9 r9 o9 k9 CC K3 KB
      try go_wp2_with fail
      refine hK.out _ _ ?_ (fun hHeld => ?_)
      · exact Only.mono KK.out (fun _ _ h => h.elim)
      clear hK K
      refine wpAnyH_ready (rs := [10]) (by kernel_rfl) (by simp) ?_
      refine AllReadyH.cons rfl (fun K hK => ?_) AllReadyH.nil
      go_simp
      refine hK.out _ _ ?_ (fun hHeld => ?_)
      · exact Only.setCell (S := fun i => i = vb) (Only.mono KK.out (fun _ _ h => h.elim)) (p := ⟨vb, 0, none⟩) (fun _ => rfl) _
      clear hK K
      refine wpAnyH_done (by kernel_rfl) ?_ _
      go_wp2
      go_end0
      exact ⟨rfl, R.out⟩
  · have e1 : putEr l x = bad1 x := by unfold putEr; rw [if_pos hb]
    have e2 : putL l x = [] := if_neg (by rw [e1]; exact hb)
    rw [e1, e2]
    have hne : Hid (endsIn (bad1 x) = .panicked [{ v := .iface 26 (.int .i64 (bad1 x)), recovered := false }]) := Lib.hid (endsIn_no hb)
    rw [hne.out] at CM ⊢
    generalize bad1 x = N at *
    have CM := Lib.hid CM
    clear hb e1 e2 hne hg he hp hv h hT
    go_enter Tryd.func26, Tryd.ntmps26
    go_wp2_with fail
    refine CM.out.mono ?_
    rintro e w1 ⟨rfl, k1⟩
    have R := Lib.hid (KN.out _ k1)
    clear k1 CM KN CF y0 y1 y2
    go_wp2
    exact ⟨rfl, rfl, R.out⟩
end Go.Proofs.YtkhgaolaaiekjaaDoor
namespace Go.Proofs.YtkhgaolaaiekjaaDoor
open Go.RowKit Go.Lib
set_option maxRecDepth 100000

set_option maxHeartbeats 1000000 in
theorem put_spec : PutSpec := by
  intro E v l x w hT hg hu hl hx hi h
  obtain ⟨A, c, rfl⟩ := h.form
  obtain ⟨W, hW⟩ : ∃ W, W = ((w.alloc (.cells #[.slice A l.length c] 22)).alloc (.cells #[.string (strOf x.n), .int .u32 (x.i : Int)] 38)).alloc (.cells #[.slice none 0 0] 22) := ⟨_, rfl⟩
  have sW : W.heap.size = w.heap.size + 1 + 1 + 1 := by rw [hW]; simp
  have kW : Still w (W.alloc errBox) := by rw [hW]; exact ((((Still.refl w).alloc _).alloc _).alloc _).alloc _
  have hp : Has (W.alloc errBox) w.heap.size 22 #[.slice A l.length c] := by rw [hW]; exact (((Has.new w 22 _).alloc _).alloc _).alloc _
  have he : Has (W.alloc errBox) (w.heap.size + 1) 38 #[.string (strOf x.n), .int .u32 (x.i : Int)] := by
    rw [hW]
    have := (((Has.new (w.alloc (.cells #[.slice A l.length c] 22)) 38 #[.string (strOf x.n), .int .u32 (x.i : Int)]).alloc (.cells #[.slice none 0 0] 22)).alloc errBox)
    simpa using this
  have hb : Has (W.alloc errBox) (w.heap.size + 1 + 1) 22 #[.slice none 0 0] := by
    rw [hW]
    have := (Has.new ((w.alloc (.cells #[.slice A l.length c] 22)).alloc (.cells #[.string (strOf x.n), .int .u32 (x.i : Int)] 38)) 22 #[.slice none 0 0]).alloc errBox
    simpa using this
  have C := Lib.hid (caught_any 26 _ Tryd.enterPut1e W (putEr l x) (EDec1 (W.alloc errBox) (w.heap.size + 1 + 1) (putL l x))
    ((eput1_any E _ l x _ (hT.stay kW) hg hl hx (EsIs.only h kW (fun _ _ _ h => h)) _ _ _ (by omega) (by omega) he hp hb).mono fun e w' hh => ⟨hh.1, (Has.new W 26 #[.int .i64 0]).only hh.2.1 (by omega), hh.2⟩))
  have R : Hid (∀ w1 w2, EDec1 (W.alloc errBox) (w.heap.size + 1 + 1) (putL l x) w1 → Only (fun j => j = W.heap.size) w1 w2 → ∃ A n c, w2.cell? ⟨w.heap.size + 1 + 1, 0, none⟩ = some (.slice A n c) ∧ RowStep (putL l x) (putEr l x) w (.returned (.tuple #[.slice A n c, .int .i64 (putEr l x)])) w2) := Lib.hid (fun w1 w2 h1 k2 => by
    obtain ⟨A, c, hc, he, hk⟩ := made_row kW (by omega) h1 (by omega) k2
    exact ⟨A, _, c, hc, A, c, rfl, he, hk⟩)
  rw [hW] at C R
  generalize putEr l x = er at *
  clear hp he hb kW sW hW hT hg hu hl hx hi h
  go_enter Tryd.func15, Tryd.ntmps15
  go_wp2_with fail
  refine C.out.mono ?_
  rintro e w2 ⟨rfl, w1, h1, k2⟩
  obtain ⟨A2, n2, c2, hc, h⟩ := R.out w1 w2 h1 k2
  have H := Lib.hid h
  clear h1 k2 h R C
  go_wp2
  go_ret2
  exact H.out

theorem Tryd.enterCut1e : ∀ args w, (callFunc 32 args).run Tryd.prog w = .ok (.enter 32 args) w := enters_of Tryd.func32 (by kernel_rfl) rfl
set_option maxHeartbeats 4000000 in
theorem ecut1_any (E : Nat → Prop) (v : Value) (l : List En) (n : List UInt8) (w : World) (hg : Good l) (hl : l.length ≤ 1000) (h : EsIs w E v l) (pl pn vb : Nat) (n1 : pl ≠ vb)
    (hn : Has w pn 9 #[.string (strOf n)]) (hp : Has w pl 22 #[v]) (hv : Has w vb 22 #[.slice none 0 0]) :
    Calls Tryd.prog 32 #[.pointer (some ⟨pl, 0, none⟩), .pointer (some ⟨pn, 0, none⟩), .pointer (some ⟨vb, 0, none⟩)] w fun e w' => e = endsIn (cutEr l n) ∧ EDec1 w vb (cutL l n) w' := by
  have CP := place_any E v l n w hg.2 (by omega) h
  have c1 := hn.cell 0
  have c0 := hp.cell 0
  simp only [List.getElem?_toArray, List.getElem?_cons_zero] at c0 c1
  have KN : Hid (∀ w', Still w w' → EDec1 w vb [] w') := Lib.hid (fun w' k => ⟨k.mono (fun _ _ h => h.elim), _, k.has hv, World.ownsRow_nil _ _ _ _⟩)
  obtain ⟨A, c, rfl⟩ := h.form
  by_cases ht : ∃ y ∈ l, y.n = n
  · have e1 : cutEr l n = 0 := if_pos ht
    have e2 : cutL l n = cutE l n := if_pos ht
    obtain ⟨hlt, _⟩ := (there_pos hg.2).1 ht
    rw [e1, e2, endsIn_yes]
    rw [decide_eq_true ht] at CP
    have HS : Hid (∀ w', Still w w' → EsIs w' E (.slice A l.length c) l) := Lib.hid (fun w' k => EsIs.only h k (fun _ _ _ h => h))
    have KB : Hid (∀ w2 u, Still w w2 → w2.ownsRow w.heap.size 38 2 u (cutE l n).length (enC (cutE l n)) → Has w2 vb 22 #[.slice none 0 0] ∧ EDec1 w vb (cutE l n) (w2.setCell ⟨vb, 0, none⟩ u)) := Lib.hid (fun w2 u k o => put_box hv k o rfl)
    have CF0 : Hid (∀ w', Only (fun i => i = vb) w w' → w'.cell? ⟨pl, 0, none⟩ = some (.slice A l.length c)) := Lib.hid (fun w' k => by
      have c0 := (hp.only k n1).cell 0
      simpa using c0)
    obtain ⟨hc, hcm⟩ := Caps.slice h.2
    have HPE : Hid (cutE l n = l.take (posE n l) ++ l.drop (posE n l + 1)) := Lib.hid rfl
    have CP := Lib.hid CP
    generalize posE n l = P at *
    clear e1 e2 ht hg hn hp hv h KN
    go_enter Tryd.func32, Tryd.ntmps32
    go_wp2_with fail
    refine CP.out.mono ?_
    rintro e W ⟨rfl, k2⟩
    have KW := Lib.hid k2
    clear k2 CP c0 c1
    go_wp2_with fail
    refine (must_yes 6 _).mono ?_
    rintro e w' ⟨rfl, rfl⟩
    have CF : Hid (∀ w', Only (fun i => i = vb) W w' → w'.cell? ⟨pl, 0, none⟩ = some (.slice A l.length c)) := Lib.hid (fun w' k => CF0.out w' (Only.trans (Only.mono KW.out (fun _ _ h => h.elim)) k (fun _ _ h => h)))
    clear CF0
    have i0 : (0 : Int) ≤ (P : Int) := by omega
    have i1 : (P : Int) ≤ (c : Int) := by omega
    have i2 : (P : Int) ≤ (l.length : Int) := by omega
    have i3 : (l.length : Int) ≤ (c : Int) := by omega
    have i4 : (0 : Int) ≤ (P : Int) + 1 := by omega
    have i5 : (P : Int) + 1 ≤ (l.length : Int) := by omega
    have i6 : (P : Int) + 1 ≤ (c : Int) := by omega
    have tn : ((P : Int) + 1).toNat = P + 1 := by omega
    have wp : IntKind.i64.wrap ((P : Int) + 1) = (P : Int) + 1 := IntWalk.i64_in _ (by omega)
    have EF : Hid (∀ w', Still W w' → EsIs w' E (.slice A P c) (l.take P) ∧ EsIs w' E (.slice (if c = P + 1 then A else Option.map (fun x => x.add ((P + 1) * 2)) A) (l.length - (P + 1)) (c - (P + 1))) (l.drop (P + 1))) := Lib.hid (fun w' k => ⟨EsIs.front (HS.out w' (KW.out.trans k)) (by omega), EsIs.back (HS.out w' (KW.out.trans k)) (by omega)⟩)
    clear HS
    go_wp2_with fail
    refine wp_region_held_drew (S := fun w' => Only (fun i => i = vb) W w') (by kernel_rfl) ?_ (fun hHeld => ?_)
    · exact (Only.refl (fun i => i = vb) W).drew
    refine takeH (i := 0) (d := 13) (v := ?_) (by kernel_rfl) (by kernel_rfl) (by kernel_rfl) rfl (fun _ _ _ h => h) (by rfl) ?_ hHeld ?_
    rotate_left
    · intro o ho w hSw
      cases ho
      have y0 := CF.out _ hSw
      go_simp
      try with_reducible rfl
    simp only [Act.put, List.setIfInBounds_toArray, List.set_cons_zero, List.set_cons_succ]
    refine takeH (i := 3) (d := 16) (v := ?_) (by kernel_rfl) (by kernel_rfl) (by kernel_rfl) rfl (fun _ _ _ h => h) (by rfl) ?_ hHeld ?_
    rotate_left
    · intro o ho w hSw
      cases ho
      have y0 := CF.out _ hSw
      go_simp
      try with_reducible rfl
    simp only [Act.put, List.setIfInBounds_toArray, List.set_cons_zero, List.set_cons_succ]
    refine takeH (i := 1) (d := 14) (v := ?_) (by kernel_rfl) (by kernel_rfl) (by kernel_rfl) rfl (fun _ _ _ h => h) (by rfl) ?_ hHeld ?_
    rotate_left
    · intro o ho w hSw
      cases ho
      go_simp
      try with_reducible rfl
    simp only [Act.put, List.setIfInBounds_toArray, List.set_cons_zero, List.set_cons_succ]
    refine takeH (i := 4) (d := 17) (v := ?_) (by kernel_rfl) (by kernel_rfl) (by kernel_rfl) rfl (fun _ _ _ h => h) (by rfl) ?_ hHeld ?_
    rotate_left
    · intro o ho w hSw
      cases ho
      go_simp
      try with_reducible rfl
    simp only [Act.put, List.setIfInBounds_toArray, List.set_cons_zero, List.set_cons_succ]
    refine takeH (i := 2) (d := 15) (v := ?_) (by kernel_rfl) (by kernel_rfl) (by kernel_rfl) rfl (fun _ _ _ h => h) (by rfl) ?_ hHeld ?_
    rotate_left
    · intro o ho w hSw
      cases ho
      go_simp
      try with_reducible rfl
    simp only [Act.put, List.setIfInBounds_toArray, List.set_cons_zero, List.set_cons_succ]
    refine takeH (i := 5) (d := 18) (v := ?_) (by kernel_rfl) (by kernel_rfl) (by kernel_rfl) rfl (fun _ _ _ h => h) (by rfl) ?_ hHeld ?_
    rotate_left
    · intro o ho w hSw
      cases ho
      go_simp
      try with_reducible rfl
    simp only [Act.put, List.setIfInBounds_toArray, List.set_cons_zero, List.set_cons_succ]
    refine takeH (i := 6) (d := 19) (v := ?_) (by kernel_rfl) (by kernel_rfl) (by kernel_rfl) rfl (fun _ _ _ h => h) (by rfl) ?_ hHeld ?_
    rotate_left
    · intro o ho w hSw
      cases ho
      go_simp
      try with_reducible rfl
    simp only [Act.put, List.setIfInBounds_toArray, List.set_cons_zero, List.set_cons_succ]
    generalize (if c = P + 1 then A else Option.map (fun x => x.add ((P + 1) * 2)) A) = A3 at *
    obtain ⟨W3, hW3⟩ : ∃ W3, W3 = (W.alloc (.cells #[.slice A P c, .slice A3 (l.length - (P + 1)) (c - (P + 1))] 22)).drew := ⟨_, rfl⟩
    have K3 : Still W W3 := by rw [hW3]; exact ((Still.refl W).alloc _).drew
    have B3 : Has W3 W.heap.size 22 #[.slice A P c, .slice A3 (l.length - (P + 1)) (c - (P + 1))] := by
      rw [hW3]
      exact (Has.new W 22 #[.slice A P c, .slice A3 (l.length - (P + 1)) (c - (P + 1))]).drew
    have RP : rowsP [(Value.slice A P c, l.take P), (.slice A3 (l.length - (P + 1)) (c - (P + 1)), l.drop (P + 1))] = cutE l n := by rw [HPE.out]; simp [rowsP]
    have CC := concat_any (.slice (some ⟨W.heap.size, 0, none⟩) 2 2) [(Value.slice A P c, l.take P), (.slice A3 (l.length - (P + 1)) (c - (P + 1)), l.drop (P + 1))] W3
      (PsIs.two B3 (EF.out _ K3).1 (EF.out _ K3).2)
      (by simp) (by rw [RP]; have := cutE_len l n; omega)
    rw [RP] at CC
    have CC := Lib.hid CC
    have K3 := Lib.hid K3
    rw [hW3] at CC K3
    clear RP B3 hW3 HPE EF
    refine wpAnyH_ready (rs := [7]) (by kernel_rfl) (by simp) ?_
    refine AllReadyH.cons rfl (fun K hK => ?_) AllReadyH.nil
    go_simp
    refine hK.out _ _ ?_ (fun hHeld => ?_)
    · exact (Only.refl (fun i => i = vb) W).drew.alloc _
    clear hK K
    refine wpAnyH_ready (rs := [8]) (by kernel_rfl) (by simp) ?_
    refine AllReadyH.cons rfl (fun K hK => ?_) AllReadyH.nil
    go_simp
    refine CC.out.mono ?_
    rintro e w9 ⟨V, rfl, o9, k9⟩
    have KK := Lib.hid (K3.out.trans k9)
    obtain ⟨hb9, r9⟩ := KB.out w9 V (KW.out.trans KK.out) (owns_base o9 (KW.out.trans K3.out).size)
    have R := Lib.hid r9
    have x0 := hb9.cell 0
    have y0 := hb9.frozen 0
    simp only [List.getElem?_toArray, List.getElem?_cons_zero] at x0
    obtain ⟨A9, n9, c9, rfl⟩ := owns_form o9
    clear hb9 r9 o9 k9 CC K3 KB
    try go_wp2_with fail
    refine hK.out _ _ ?_ (fun hHeld => ?_)
    · exact Only.mono KK.out (fun _ _ h => h.elim)
    clear hK K
    refine wpAnyH_ready (rs := [9]) (by kernel_rfl) (by simp) ?_
    refine AllReadyH.cons rfl (fun K hK => ?_) AllReadyH.nil
    go_simp
    refine hK.out _ _ ?_ (fun hHeld => ?_)
    · exact Only.setCell (S := fun i => i = vb) (Only.mono KK.out (fun _ _ h => h.elim)) (p := ⟨vb, 0, none⟩) (fun _ => rfl) _
    clear hK K
    refine wpAnyH_done (by kernel_rfl) ?_ _
    go_wp2
    go_end0
    exact ⟨rfl, R.out⟩
  · have e1 : cutEr l n = 6 := if_neg ht
    have e2 : cutL l n = [] := if_neg ht
    rw [e1, e2, endsIn_no (by decide)]
    rw [decide_eq_false ht] at CP
    have CP := Lib.hid CP
    generalize posE n l = P at *
    clear e1 e2 ht hg hn hp hv h
    go_enter Tryd.func32, Tryd.ntmps32
    go_wp2_with fail
    refine CP.out.mono ?_
    rintro e w1 ⟨rfl, k1⟩
    have R := Lib.hid (KN.out _ k1)
    clear k1 CP KN c0 c1
    go_wp2_with fail
    refine (must_no 6 _).mono ?_
    rintro e w' ⟨rfl, rfl⟩
    go_wp2
    exact ⟨rfl, rfl, R.out⟩
set_option maxHeartbeats 1000000 in
theorem cut_spec : CutSpec := by
  intro E v l n w hT hg hu hl hn h
  obtain ⟨A, c, rfl⟩ := h.form
  obtain ⟨W, hW⟩ : ∃ W, W = ((w.alloc (.cells #[.slice A l.length c] 22)).alloc (.cells #[.string (strOf n)] 9)).alloc (.cells #[.slice none 0 0] 22) := ⟨_, rfl⟩
  have sW : W.heap.size = w.heap.size + 1 + 1 + 1 := by rw [hW]; simp
  have kW : Still w (W.alloc errBox) := by rw [hW]; exact ((((Still.refl w).alloc _).alloc _).alloc _).alloc _
  have hp : Has (W.alloc errBox) w.heap.size 22 #[.slice A l.length c] := by rw [hW]; exact (((Has.new w 22 _).alloc _).alloc _).alloc _
  have he : Has (W.alloc errBox) (w.heap.size + 1) 9 #[.string (strOf n)] := by
    rw [hW]
    have := (((Has.new (w.alloc (.cells #[.slice A l.length c] 22)) 9 #[.string (strOf n)]).alloc (.cells #[.slice none 0 0] 22)).alloc errBox)
    simpa using this
  have hb : Has (W.alloc errBox) (w.heap.size + 1 + 1) 22 #[.slice none 0 0] := by
    rw [hW]
    have := (Has.new ((w.alloc (.cells #[.slice A l.length c] 22)).alloc (.cells #[.string (strOf n)] 9)) 22 #[.slice none 0 0]).alloc errBox
    simpa using this
  have C := Lib.hid (caught_any 32 _ Tryd.enterCut1e W (cutEr l n) (EDec1 (W.alloc errBox) (w.heap.size + 1 + 1) (cutL l n))
    ((ecut1_any E _ l n _ hg hl (EsIs.only h kW (fun _ _ _ h => h)) _ _ _ (by omega) he hp hb).mono fun e w' hh => ⟨hh.1, (Has.new W 26 #[.int .i64 0]).only hh.2.1 (by omega), hh.2⟩))
  have R : Hid (∀ w1 w2, EDec1 (W.alloc errBox) (w.heap.size + 1 + 1) (cutL l n) w1 → Only (fun j => j = W.heap.size) w1 w2 → ∃ A n' c, w2.cell? ⟨w.heap.size + 1 + 1, 0, none⟩ = some (.slice A n' c) ∧ RowStep (cutL l n) (cutEr l n) w (.returned (.tuple #[.slice A n' c, .int .i64 (cutEr l n)])) w2) := Lib.hid (fun w1 w2 h1 k2 => by
    obtain ⟨A, c, hc, he, hk⟩ := made_row kW (by omega) h1 (by omega) k2
    exact ⟨A, _, c, hc, A, c, rfl, he, hk⟩)
  rw [hW] at C R
  generalize cutEr l n = er at *
  clear hp he hb kW sW hW hT hg hu hl hn h
  go_enter Tryd.func17, Tryd.ntmps17
  go_wp2_with fail
  refine C.out.mono ?_
  rintro e w2 ⟨rfl, w1, h1, k2⟩
  obtain ⟨A2, n2, c2, hc, h⟩ := R.out w1 w2 h1 k2
  have H := Lib.hid h
  clear h1 k2 h R C
  go_wp2
  go_ret2
  exact H.out
end Go.Proofs.YtkhgaolaaiekjaaDoor
