/-
  Package geom: Encode.
-/
import Derived.Test.YtfkojilhpkklfaaGeomG
namespace Go.Proofs.Ytfkojilhpkklfaa
open Go.RowKit Go.Lib
set_option maxRecDepth 100000

theorem bytes_nat (B N I : Nat) : (gN B N I).bytes = superB B N I := rfl
/-- What the function that Encode hands to Caught leaves. -/
def Enc1 (w : World) (vb : Nat) (g : G3) (w' : World) : Prop :=
  Only (fun i => i = vb) w w' ∧ ∃ v, Has w' vb 24 #[v] ∧ (g.chk = 0 → w'.ownsRow w.heap.size 5 1 v g.bytes.length (b8s g.bytes)) ∧ (g.chk ≠ 0 → v = .slice none 0 0)
theorem Try.enterGEncode1 : ∀ args w, (callFunc 15 args).run Try.prog w = .ok (.enter 15 args) w := enters_of Try.func15 (by kernel_rfl) rfl
set_option maxHeartbeats 1000000 in
theorem gencode1_any (g : G3) (p vb : Nat) (w : World) (hp : Has w p 23 g.cells) (hv : Has w vb 24 #[.slice none 0 0]) :
    Calls Try.prog 15 #[.pointer (some ⟨p, 0, none⟩), .pointer (some ⟨vb, 0, none⟩)] w fun e w' => e = endsIn g.chk ∧ Enc1 w vb g w' := by
  rcases Classical.em (g.chk = 0) with h | h
  · have HP := Lib.hid hp
    have HV := Lib.hid hv
    have c0 := hp.cell 0
    have c1 := hp.cell 1
    have c2 := hp.cell 2
    simp only [G3.cells, List.getElem?_toArray, List.getElem?_cons_zero, List.getElem?_cons_succ] at c0 c1 c2
    obtain ⟨B, N, I, rfl, hm, _⟩ := chk_zero h
    have C : Hid (Calls Try.prog 16 #[.agg #[.int .i64 (B : Int), .int .i64 (N : Int), .int .i64 (I : Int)]] w fun e w' => e = .returned (.tuple #[]) ∧ Still w w') := Lib.hid (by
      have := gmust_any (gN B N I) w
      rw [h, endsIn_yes] at this
      exact this)
    have D : Hid (∀ W, Calls Try.prog 17 #[.agg #[.int .i64 (B : Int), .int .i64 (N : Int), .int .i64 (I : Int)]] W (NewB W (gN B N I).bytes)) := Lib.hid (fun W => super_any hm W)
    have K : Hid (∀ w1 w2 v, Still w w1 → w2.ownsRow w1.heap.size 5 1 v (gN B N I).bytes.length (b8s (gN B N I).bytes) → Still w1 w2 → Has w2 vb 24 #[.slice none 0 0] ∧ Enc1 w vb (gN B N I) (w2.setCell ⟨vb, 0, none⟩ v)) := Lib.hid (fun w1 w2 v k1 o k2 => by
      have hv2 := k2.has (k1.has HV.out)
      have hlt := HV.out.lt
      have hs := k1.size
      refine ⟨hv2, Only.setCell (S := fun i => i = vb) ((k1.trans k2).mono (fun _ _ h => h.elim)) (p := ⟨vb, 0, none⟩) (fun _ => rfl) v, v, hv2.set 0 v, fun _ => ?_, fun hn => absurd h hn⟩
      refine owns_only (owns_base o hs) ((Only.refl (fun i => i = vb) w2).setCell (p := ⟨vb, 0, none⟩) (fun _ => rfl) v) (fun i hi e => ?_)
      have := (o.lt i hi).1
      omega)
    rw [h, endsIn_yes]
    generalize (gN B N I).bytes = bs at *
    have e0 : (gN B N I).b = (B : Int) := rfl
    have e1 : (gN B N I).n = (N : Int) := rfl
    have e2 : (gN B N I).i = (I : Int) := rfl
    rw [e0] at c0
    rw [e1] at c1
    rw [e2] at c2
    clear hp hv HV hm h e0 e1 e2
    go_enter Try.func15, Try.ntmps15
    go_wp2_with fail
    refine C.out.mono ?_
    rintro e w1 ⟨rfl, k1⟩
    have d := k1.has HP.out
    have d0 := d.cell 0
    have d1 := d.cell 1
    have d2 := d.cell 2
    simp only [G3.cells, gN, List.getElem?_toArray, List.getElem?_cons_zero, List.getElem?_cons_succ] at d0 d1 d2
    have K1 := Lib.hid k1
    clear k1 d C c0 c1 c2 HP
    go_wp2_with fail
    refine (D.out _).mono ?_
    rintro e w2 ⟨v, rfl, o2, k2⟩
    obtain ⟨hv2, r⟩ := K.out w1 w2 v K1.out o2 k2
    have R := Lib.hid r
    have x0 := hv2.cell 0
    have y0 := hv2.frozen 0
    simp only [List.getElem?_toArray, List.getElem?_cons_zero] at x0
    obtain ⟨A, c, rfl, _⟩ := owns_slice o2
    clear hv2 r o2 k2 K D K1 d0 d1 d2
    go_wp2
    go_end0
    exact ⟨rfl, R.out⟩
  · have c0 := hp.cell 0
    have c1 := hp.cell 1
    have c2 := hp.cell 2
    simp only [G3.cells, List.getElem?_toArray, List.getElem?_cons_zero, List.getElem?_cons_succ] at c0 c1 c2
    have K : Hid (∀ w1, Still w w1 → Enc1 w vb g w1) := Lib.hid (fun w1 k => ⟨k.mono (fun _ _ h => h.elim), _, k.has hv, fun h0 => absurd h0 h, fun _ => rfl⟩)
    have C : Hid (Calls Try.prog 16 #[.agg #[.int .i64 g.b, .int .i64 g.n, .int .i64 g.i]] w fun e w' => e = endsIn g.chk ∧ Still w w') := Lib.hid (gmust_any g w)
    rw [endsIn_no h] at C ⊢
    clear hp hv
    go_enter Try.func15, Try.ntmps15
    go_wp2_with fail
    refine C.out.mono ?_
    rintro e w1 ⟨rfl, k1⟩
    have R := Lib.hid (K.out w1 k1)
    clear k1 C K c0 c1 c2
    go_wp2
    exact ⟨rfl, rfl, R.out⟩

/-- What Encode leaves. -/
def EncStep (w : World) (g : G3) (e : Ending) (w' : World) : Prop :=
  ∃ v, e = .returned (.tuple #[v, .int .i64 g.chk]) ∧ (g.chk = 0 → w'.ownsRow w.heap.size 5 1 v g.bytes.length (b8s g.bytes)) ∧ (g.chk ≠ 0 → v = .slice none 0 0) ∧ Still w w'
set_option maxHeartbeats 1000000 in
theorem gencode_any (g : G3) (w : World) : Calls Try.prog 7 #[g.val] w (EncStep w g) := by
  obtain ⟨W, hW⟩ : ∃ W, W = (w.alloc (.cells #[.int .i64 g.b, .int .i64 g.n, .int .i64 g.i] 23)).alloc (.cells #[.slice none 0 0] 24) := ⟨_, rfl⟩
  have sW : W.heap.size = w.heap.size + 1 + 1 := by rw [hW]; simp
  have kW : Still w (W.alloc errBox) := by rw [hW]; exact (((Still.refl w).alloc _).alloc _).alloc _
  have hp : Has (W.alloc errBox) w.heap.size 23 g.cells := by rw [hW]; exact ((Has.new w 23 g.cells).alloc _).alloc _
  have hv : Has (W.alloc errBox) (w.heap.size + 1) 24 #[.slice none 0 0] := by
    rw [hW]
    have := (Has.new (w.alloc (.cells #[.int .i64 g.b, .int .i64 g.n, .int .i64 g.i] 23)) 24 #[.slice none 0 0]).alloc errBox
    simpa using this
  have C := Lib.hid (caught_any 15 _ Try.enterGEncode1 W g.chk (Enc1 (W.alloc errBox) (w.heap.size + 1) g)
    ((gencode1_any g _ _ _ hp hv).mono fun e w' hh => ⟨hh.1, (Has.new W 26 #[.int .i64 0]).only hh.2.1 (by omega), hh.2⟩))
  have R : Hid (∀ w1 w2, Enc1 (W.alloc errBox) (w.heap.size + 1) g w1 → Only (fun i => i = W.heap.size) w1 w2 → ∃ A n c, w2.cell? ⟨w.heap.size + 1, 0, none⟩ = some (.slice A n c) ∧ EncStep w g (.returned (.tuple #[.slice A n c, .int .i64 g.chk])) w2) := Lib.hid (fun w1 w2 h1 k2 => by
    obtain ⟨k1, v, hb, hy, hn⟩ := h1
    have hb2 := hb.only k2 (by omega)
    have hc := hb2.cell 0
    have hs := kW.size
    have hs1 := k1.size
    have hz : (W.alloc errBox).heap.size = W.heap.size + 1 := by simp
    have hy2 : g.chk = 0 → w2.ownsRow w.heap.size 5 1 v g.bytes.length (b8s g.bytes) := fun h0 => owns_only (owns_base (hy h0) hs) k2 (fun i hi e => by
      have := ((hy h0).lt i hi).1
      omega)
    have hk : Still w w2 := Only.trans (Only.trans kW k1 (fun i hi e => by omega)) k2 (fun i hi e => by omega)
    obtain ⟨A, n, c, rfl⟩ : ∃ A n c, v = .slice A n c := by
      by_cases h0 : g.chk = 0
      · obtain ⟨A, c, e, _⟩ := owns_slice (hy h0)
        exact ⟨A, _, c, e⟩
      · exact ⟨_, _, _, hn h0⟩
    exact ⟨A, n, c, by simpa using hc, _, rfl, hy2, hn, hk⟩)
  generalize g.chk = r at *
  show Calls Try.prog 7 #[.agg #[.int .i64 g.b, .int .i64 g.n, .int .i64 g.i]] w _
  rw [hW] at C R
  clear hp hv kW sW hW
  go_enter Try.func7, Try.ntmps7
  go_wp2_with fail
  refine C.out.mono ?_
  rintro e w2 ⟨rfl, w1, h1, k2⟩
  obtain ⟨A, n, c, hc, h⟩ := R.out w1 w2 h1 k2
  have H := Lib.hid h
  clear h1 k2 h R C
  go_wp2
  go_ret2
  exact H.out
end Go.Proofs.Ytfkojilhpkklfaa
