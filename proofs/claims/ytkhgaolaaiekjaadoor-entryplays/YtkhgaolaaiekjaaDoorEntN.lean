/-
  Package entry: Encode.
-/
import Derived.Test.YtkhgaolaaiekjaaDoorEntM
import Derived.Test.YtkhgaolaaiekjaaDoorEntG
namespace Go.Proofs.YtkhgaolaaiekjaaDoor
open Go.RowKit Go.Lib
set_option maxRecDepth 100000

/-- What the function that Encode hands to Caught leaves. -/
def EEnc1 (w : World) (vb : Nat) (l : List En) (w' : World) : Prop :=
  Only (fun j => j = vb) w w' ∧ ∃ v, Has w' vb 25 #[v] ∧ (chkE l = 0 → w'.ownsRow w.heap.size 5 1 v (encL l).length (b8s (encL l))) ∧ (chkE l ≠ 0 → v = .slice none 0 0)
theorem Tryd.enterEncode1e : ∀ args w, (callFunc 20 args).run Tryd.prog w = .ok (.enter 20 args) w := enters_of Tryd.func20 (by kernel_rfl) rfl
set_option maxHeartbeats 1000000 in
theorem eencode1_any (E : Nat → Prop) (v : Value) (l : List En) (w : World) (hT : Tabs w) (hu : U32s l) (hl : l.length ≤ 1000) (hx : ∀ x ∈ l, x.n.length ≤ 1000) (h : EsIs w E v l) (p vb : Nat) (hp : Has w p 22 #[v]) (hv : Has w vb 25 #[.slice none 0 0]) :
    Calls Tryd.prog 20 #[.pointer (some ⟨p, 0, none⟩), .pointer (some ⟨vb, 0, none⟩)] w fun e w' => e = endsIn (chkE l) ∧ EEnc1 w vb l w' := by
  have HV := Lib.hid hv
  have HP := Lib.hid hp
  have C := mustrow_any E v l w hT (by omega) (fun x hm => by have := hx x hm; omega) h
  have HS : Hid (∀ wr, Still w wr → EsIs wr E v l) := Lib.hid (fun wr k => EsIs.only h k (fun _ _ _ h => h))
  obtain ⟨A, c, rfl⟩ := h.form
  have c0 := hp.cell 0
  simp only [List.getElem?_toArray, List.getElem?_cons_zero] at c0
  by_cases hz : chkE l = 0
  · have hg := (chkE_good l).1 hz
    rw [hz, endsIn_yes] at C ⊢
    have C := Lib.hid C
    have D : Hid (∀ W, Still w W → Calls Tryd.prog 22 #[.slice A l.length c] W (NewB W (encL l))) := Lib.hid (fun W k => written13_any E _ l W hl (fun x hm => (name_ok (hg.1 x hm).1).1) hu (HS.out W k))
    have K : Hid (∀ w1 w2 u, Still w w1 → w2.ownsRow w1.heap.size 5 1 u (encL l).length (b8s (encL l)) → Still w1 w2 → Has w2 vb 25 #[.slice none 0 0] ∧ EEnc1 w vb l (w2.setCell ⟨vb, 0, none⟩ u)) := Lib.hid (fun w1 w2 u k1 o k2 => by
      have hv2 := k2.has (k1.has HV.out)
      have hlt := HV.out.lt
      have hs := k1.size
      refine ⟨hv2, Only.setCell (S := fun i => i = vb) ((k1.trans k2).mono (fun _ _ h => h.elim)) (p := ⟨vb, 0, none⟩) (fun _ => rfl) u, u, hv2.set 0 u, fun _ => ?_, fun hn => absurd hz hn⟩
      refine owns_only (owns_base o hs) ((Only.refl (fun i => i = vb) w2).setCell (p := ⟨vb, 0, none⟩) (fun _ => rfl) u) (fun i hi e => ?_)
      have := (o.lt i hi).1
      omega)
    clear hp hv HV h hz hg hT HS
    go_enter Tryd.func20, Tryd.ntmps20
    go_wp2_with fail
    refine C.out.mono ?_
    rintro e w1 ⟨rfl, k1⟩
    have K1 := Lib.hid k1
    have c1 := (k1.has HP.out).cell 0
    simp only [List.getElem?_toArray, List.getElem?_cons_zero] at c1
    have D1 := Lib.hid (D.out _ k1)
    clear k1 C HP c0 D
    go_wp2_with fail
    refine D1.out.mono ?_
    rintro e w2 ⟨u, rfl, o2, k2⟩
    obtain ⟨hv2, r⟩ := K.out w1 w2 u K1.out o2 k2
    have R := Lib.hid r
    have x0 := hv2.cell 0
    have y0 := hv2.frozen 0
    simp only [List.getElem?_toArray, List.getElem?_cons_zero] at x0
    obtain ⟨A2, c2, rfl, _⟩ := owns_slice o2
    clear hv2 r o2 k2 K D1 K1 c1
    go_wp2
    go_end0
    exact ⟨rfl, R.out⟩
  · have hne : Hid (endsIn (chkE l) = .panicked [{ v := .iface 26 (.int .i64 (chkE l)), recovered := false }]) := Lib.hid (endsIn_no hz)
    have K : Hid (∀ w1, Still w w1 → EEnc1 w vb l w1) := Lib.hid (fun w1 k => ⟨k.mono (fun _ _ h => h.elim), _, k.has hv, fun h0 => absurd h0 hz, fun _ => rfl⟩)
    rw [hne.out] at C ⊢
    generalize chkE l = N at *
    have C := Lib.hid C
    clear hp hv h HV HS hT hz hne HP
    go_enter Tryd.func20, Tryd.ntmps20
    go_wp2_with fail
    refine C.out.mono ?_
    rintro e w1 ⟨rfl, k1⟩
    have R := Lib.hid (K.out w1 k1)
    clear k1 C K c0
    go_wp2
    exact ⟨rfl, rfl, R.out⟩

set_option maxHeartbeats 1000000 in
theorem enc_spec : EncSpec := by
  intro E v l w hT hu hl hx h
  obtain ⟨A, c, rfl⟩ := h.form
  obtain ⟨W, hW⟩ : ∃ W, W = (w.alloc (.cells #[.slice A l.length c] 22)).alloc (.cells #[.slice none 0 0] 25) := ⟨_, rfl⟩
  have sW : W.heap.size = w.heap.size + 1 + 1 := by rw [hW]; simp
  have kW : Still w (W.alloc errBox) := by rw [hW]; exact (((Still.refl w).alloc _).alloc _).alloc _
  have hp : Has (W.alloc errBox) w.heap.size 22 #[.slice A l.length c] := by rw [hW]; exact ((Has.new w 22 _).alloc _).alloc _
  have hv : Has (W.alloc errBox) (w.heap.size + 1) 25 #[.slice none 0 0] := by
    rw [hW]
    have := (Has.new (w.alloc (.cells #[.slice A l.length c] 22)) 25 #[.slice none 0 0]).alloc errBox
    simpa using this
  have C := Lib.hid (caught_any 20 _ Tryd.enterEncode1e W (chkE l) (EEnc1 (W.alloc errBox) (w.heap.size + 1) l)
    ((eencode1_any E _ l _ (hT.stay kW) hu hl hx (EsIs.only h kW (fun _ _ _ h => h)) _ _ hp hv).mono fun e w' hh => ⟨hh.1, (Has.new W 26 #[.int .i64 0]).only hh.2.1 (by omega), hh.2⟩))
  have R : Hid (∀ w1 w2, EEnc1 (W.alloc errBox) (w.heap.size + 1) l w1 → Only (fun j => j = W.heap.size) w1 w2 → ∃ A n c, w2.cell? ⟨w.heap.size + 1, 0, none⟩ = some (.slice A n c) ∧ EncStep l w (.returned (.tuple #[.slice A n c, .int .i64 (chkE l)])) w2) := Lib.hid (fun w1 w2 h1 k2 => by
    obtain ⟨k1, u, hb, hy, hn⟩ := h1
    have hb2 := hb.only k2 (by omega)
    have hc := hb2.cell 0
    have hs := kW.size
    have hs1 := k1.size
    have hz : (W.alloc errBox).heap.size = W.heap.size + 1 := by simp
    have hy2 : chkE l = 0 → w2.ownsRow w.heap.size 5 1 u (encL l).length (b8s (encL l)) := fun h0 => owns_only (owns_base (hy h0) hs) k2 (fun i hi e => by
      have := ((hy h0).lt i hi).1
      omega)
    have hk : Still w w2 := Only.trans (Only.trans kW k1 (fun i hi e => by omega)) k2 (fun i hi e => by omega)
    by_cases h0 : chkE l = 0
    · obtain ⟨A, c, rfl, _⟩ := owns_slice (hy2 h0)
      exact ⟨A, _, c, by simpa using hc, _, _, _, rfl, fun _ => ⟨rfl, owns_SlIs (hy2 h0)⟩, fun h => absurd h0 h, hk⟩
    · have hu := hn h0
      subst hu
      exact ⟨_, _, _, by simpa using hc, _, _, _, rfl, fun h => absurd h h0, fun _ => rfl, hk⟩)
  rw [hW] at C R
  clear hp hv kW sW hW hT hu hl hx h
  go_enter Tryd.func10, Tryd.ntmps10
  go_wp2_with fail
  refine C.out.mono ?_
  rintro e w2 ⟨rfl, w1, h1, k2⟩
  obtain ⟨A2, n2, c2, hc, h⟩ := R.out w1 w2 h1 k2
  have H := Lib.hid h
  clear h1 k2 h R C
  go_wp2
  go_ret2
  exact H.out
end Go.Proofs.YtkhgaolaaiekjaaDoor
