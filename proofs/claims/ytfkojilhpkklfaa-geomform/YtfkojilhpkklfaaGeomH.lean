/-
  Package geom: Decode.
-/
import Derived.Test.YtfkojilhpkklfaaGeomG
namespace Go.Proofs.Ytfkojilhpkklfaa
open Go.RowKit Go.Lib
set_option maxRecDepth 100000

/-- What Decode answers. -/
def decG (bs : List UInt8) : G3 := if isG bs then readG bs else G3.zero
def decE (bs : List UInt8) : Int := if isG bs then 0 else 2
theorem Try.enterGDecode1 : ∀ args w, (callFunc 19 args).run Try.prog w = .ok (.enter 19 args) w := enters_of Try.func19 (by kernel_rfl) rfl
set_option maxHeartbeats 1000000 in
theorem gdecode1_any (v : Value) (bs : List UInt8) (lo hi p gb : Nat) (w : World) (hv : SlIs w lo hi v bs) (hhi : hi ≤ w.heap.size) (hl : bs.length ≤ 140737488355328) (hp : Has w p 24 #[v]) (hg : Has w gb 23 G3.zero.cells) :
    Calls Try.prog 19 #[.pointer (some ⟨p, 0, none⟩), .pointer (some ⟨gb, 0, none⟩)] w fun e w' => e = endsIn (decE bs) ∧ Only (fun i => i = gb) w w' ∧ Has w' gb 23 (decG bs).cells := by
  have C := Lib.hid (gread_any v bs lo hi w hv hhi hl)
  obtain ⟨A, c, rfl, _⟩ := hv
  have c0 := hp.cell 0
  simp only [List.getElem?_toArray, List.getElem?_cons_zero] at c0
  by_cases h : isG bs
  · have e1 : decE bs = 0 := if_pos h
    have e2 : decG bs = readG bs := if_pos h
    rw [readEnd_yes h] at C
    rw [e1, e2, endsIn_yes]
    generalize readG bs = x at *
    have K : Hid (∀ w1, Still w w1 → Has w1 gb 23 G3.zero.cells ∧ (Only (fun i => i = gb) w (((w1.setCell ⟨gb, 0, none⟩ (.int .i64 x.b)).setCell ⟨gb, 1, none⟩ (.int .i64 x.n)).setCell ⟨gb, 2, none⟩ (.int .i64 x.i)) ∧ Has (((w1.setCell ⟨gb, 0, none⟩ (.int .i64 x.b)).setCell ⟨gb, 1, none⟩ (.int .i64 x.n)).setCell ⟨gb, 2, none⟩ (.int .i64 x.i)) gb 23 x.cells)) := Lib.hid (fun w1 k => by
      have hg1 := k.has hg
      refine ⟨hg1, ?_, has_set3 hg1 _ _ _⟩
      have k' : Only (fun i => i = gb) w w1 := k.mono (fun _ _ h => h.elim)
      exact ((k'.setCell (p := ⟨gb, 0, none⟩) (fun _ => rfl) _).setCell (p := ⟨gb, 1, none⟩) (fun _ => rfl) _).setCell (p := ⟨gb, 2, none⟩) (fun _ => rfl) _)
    have hx : x.val = .agg #[.int .i64 x.b, .int .i64 x.n, .int .i64 x.i] := rfl
    rw [hx] at C
    clear hx h e1 e2 hp hg
    go_enter Try.func19, Try.ntmps19
    go_wp2_with fail
    refine C.out.mono ?_
    rintro e w1 ⟨rfl, k1⟩
    obtain ⟨h1, h2⟩ := K.out w1 k1
    have R := Lib.hid h2
    have x0 := h1.cell 0
    have x1 := h1.cell 1
    have x2 := h1.cell 2
    have f0 := h1.frozen 0
    have f1 := h1.frozen 1
    have f2 := h1.frozen 2
    simp only [G3.cells, G3.zero, List.getElem?_toArray, List.getElem?_cons_zero, List.getElem?_cons_succ] at x0 x1 x2
    clear k1 h1 h2 C K c0
    go_wp2
    go_end0
    exact ⟨rfl, R.out⟩
  · have e1 : decE bs = 2 := if_neg h
    have e2 : decG bs = G3.zero := if_neg h
    rw [readEnd_no h] at C
    rw [e1, e2, endsIn_no (by decide)]
    have K : Hid (∀ w1, Still w w1 → Only (fun i => i = gb) w w1 ∧ Has w1 gb 23 G3.zero.cells) := Lib.hid (fun w1 k => ⟨k.mono (fun _ _ h => h.elim), k.has hg⟩)
    clear h e1 e2 hp hg
    go_enter Try.func19, Try.ntmps19
    go_wp2_with fail
    refine C.out.mono ?_
    rintro e w1 ⟨rfl, k1⟩
    have R := Lib.hid (K.out w1 k1)
    clear k1 C K c0
    go_wp2
    exact ⟨rfl, rfl, R.out⟩

set_option maxHeartbeats 1000000 in
theorem gdecode_any (v : Value) (bs : List UInt8) (lo hi : Nat) (w : World) (hv : SlIs w lo hi v bs) (hhi : hi ≤ w.heap.size) (hl : bs.length ≤ 140737488355328) :
    Calls Try.prog 9 #[v] w fun e w' => e = .returned (.tuple #[(decG bs).val, .int .i64 (decE bs)]) ∧ Still w w' := by
  obtain ⟨A, c, rfl, _⟩ := id hv
  obtain ⟨W, hW⟩ : ∃ W, W = ((w.alloc (.cells #[.slice A bs.length c] 24)).alloc (.cells #[.int .i64 0, .int .i64 0, .int .i64 0] 23)).alloc (.cells #[.int .i64 0, .int .i64 0, .int .i64 0] 23) := ⟨_, rfl⟩
  have sW : W.heap.size = w.heap.size + 1 + 1 + 1 := by rw [hW]; simp
  have kW : Still w (W.alloc errBox) := by rw [hW]; exact ((((Still.refl w).alloc _).alloc _).alloc _).alloc _
  have hp : Has (W.alloc errBox) w.heap.size 24 #[.slice A bs.length c] := by rw [hW]; exact (((Has.new w 24 _).alloc _).alloc _).alloc _
  have hr : Has (W.alloc errBox) (w.heap.size + 1) 23 G3.zero.cells := by
    rw [hW]
    have := (((Has.new (w.alloc (.cells #[.slice A bs.length c] 24)) 23 #[.int .i64 0, .int .i64 0, .int .i64 0]).alloc (.cells #[.int .i64 0, .int .i64 0, .int .i64 0] 23)).alloc errBox)
    show Has _ _ _ #[.int .i64 0, .int .i64 0, .int .i64 0]
    simpa using this
  have hg : Has (W.alloc errBox) (w.heap.size + 1 + 1) 23 G3.zero.cells := by
    rw [hW]
    have := ((Has.new ((w.alloc (.cells #[.slice A bs.length c] 24)).alloc (.cells #[.int .i64 0, .int .i64 0, .int .i64 0] 23)) 23 #[.int .i64 0, .int .i64 0, .int .i64 0]).alloc errBox)
    show Has _ _ _ #[.int .i64 0, .int .i64 0, .int .i64 0]
    simpa using this
  have sE : (W.alloc errBox).heap.size = W.heap.size + 1 := by simp
  have C := Lib.hid (caught_any 19 _ Try.enterGDecode1 W (decE bs) (fun w' => Only (fun i => i = w.heap.size + 1 + 1) (W.alloc errBox) w' ∧ Has w' (w.heap.size + 1 + 1) 23 (decG bs).cells)
    ((gdecode1_any (.slice A bs.length c) bs lo hi _ _ _ (hv.only kW hhi (fun _ _ _ h => h)) (by omega) hl hp hg).mono fun e w' hh => ⟨hh.1, (Has.new W 26 #[.int .i64 0]).only hh.2.1 (by omega), hh.2⟩))
  have R : Hid (∀ w1 w2, (Only (fun i => i = w.heap.size + 1 + 1) (W.alloc errBox) w1 ∧ Has w1 (w.heap.size + 1 + 1) 23 (decG bs).cells) → Only (fun i => i = W.heap.size) w1 w2 → Has w2 (w.heap.size + 1) 23 G3.zero.cells ∧ Has w2 (w.heap.size + 1 + 1) 23 (decG bs).cells ∧ Still w w2) := Lib.hid (fun w1 w2 h1 k2 => by
    obtain ⟨k1, hb⟩ := h1
    have hs := kW.size
    have hs1 := k1.size
    exact ⟨(hr.only k1 (by omega)).only k2 (by omega), hb.only k2 (by omega), Only.trans (Only.trans kW k1 (fun i hi e => by omega)) k2 (fun i hi e => by omega)⟩)
  generalize decE bs = r at *
  generalize decG bs = x at *
  have hx : x.val = .agg #[.int .i64 x.b, .int .i64 x.n, .int .i64 x.i] := rfl
  rw [hx]
  rw [hW] at C R
  clear hp hr hg kW sW sE hW hx hv
  go_enter Try.func9, Try.ntmps9
  go_wp2_with fail
  refine C.out.mono ?_
  rintro e w2 ⟨rfl, w1, h1, k2⟩
  obtain ⟨hr, hg, ks⟩ := R.out w1 w2 h1 k2
  have x0 := hr.cell 0
  have x1 := hr.cell 1
  have x2 := hr.cell 2
  have f0 := hr.frozen 0
  have f1 := hr.frozen 1
  have f2 := hr.frozen 2
  have y0 := hg.cell 0
  have y1 := hg.cell 1
  have y2 := hg.cell 2
  simp only [G3.cells, G3.zero, List.getElem?_toArray, List.getElem?_cons_zero, List.getElem?_cons_succ] at x0 x1 x2 y0 y1 y2
  have HR := Lib.hid hr
  have KS := Lib.hid ks
  clear h1 k2 hr hg ks R C
  go_wp2_with fail
  refine bodyPost_ret (results_cell_row1 rfl _ _ (w.heap.size + 1) 23 _ (0, 0) _ rfl (has_set3 HR.out _ _ _) Try.underlying23 rfl Try.geomSize) rfl ?_
  exact ⟨rfl, KS.out.set3 (Nat.le_succ _) _ _ _⟩
end Go.Proofs.Ytfkojilhpkklfaa
