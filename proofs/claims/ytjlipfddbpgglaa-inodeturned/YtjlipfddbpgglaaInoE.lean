/-
  Package inode: Encode.
-/
import Derived.Test.YtjlipfddbpgglaaInoD
namespace Go.Proofs.Ytjlipfddbpgglaa
open Go.RowKit Go.Lib
set_option maxRecDepth 100000

/-- What the function that Encode hands to Caught leaves. -/
def IEnc1 (w : World) (vb : Nat) (i : I14) (w' : World) : Prop :=
  Only (fun j => j = vb) w w' ∧ ∃ v, Has w' vb 28 #[v] ∧ (i.May → w'.ownsRow w.heap.size 5 1 v i.bytes.length (b8s i.bytes)) ∧ (¬ i.May → v = .slice none 0 0)
theorem Try.enterIEncode1 : ∀ args w, (callFunc 16 args).run Try.prog w = .ok (.enter 16 args) w := enters_of Try.func16 (by kernel_rfl) rfl
set_option maxHeartbeats 1000000 in
theorem iencode1_any (i : I14) (hi : i.Num) (p vb : Nat) (w : World) (hp : Has w p 26 i.cells) (hv : Has w vb 28 #[.slice none 0 0]) :
    Calls Try.prog 16 #[.pointer (some ⟨p, 0, none⟩), .pointer (some ⟨vb, 0, none⟩)] w fun e w' => e = endsIn i.chk ∧ IEnc1 w vb i w' := by
  have HZ := Lib.hid i.cells_size
  have HP := Lib.hid hp
  have HV := Lib.hid hv
  have C := imust_any i w
  rcases Classical.em i.May with h | h
  · rw [I14.chk_yes h, endsIn_yes] at *
    have C := Lib.hid C
    have D : Hid (∀ W, Calls Try.prog 18 #[.agg i.cells] W (NewB W i.bytes)) := Lib.hid (fun W => written_any i hi W)
    have K : Hid (∀ w1 w2 v, Still w w1 → w2.ownsRow w1.heap.size 5 1 v i.bytes.length (b8s i.bytes) → Still w1 w2 → Has w2 vb 28 #[.slice none 0 0] ∧ IEnc1 w vb i (w2.setCell ⟨vb, 0, none⟩ v)) := Lib.hid (fun w1 w2 v k1 o k2 => by
      have hv2 := k2.has (k1.has HV.out)
      have hlt := HV.out.lt
      have hs := k1.size
      refine ⟨hv2, Only.setCell (S := fun i => i = vb) ((k1.trans k2).mono (fun _ _ h => h.elim)) (p := ⟨vb, 0, none⟩) (fun _ => rfl) v, v, hv2.set 0 v, fun _ => ?_, fun hn => absurd h hn⟩
      refine owns_only (owns_base o hs) ((Only.refl (fun i => i = vb) w2).setCell (p := ⟨vb, 0, none⟩) (fun _ => rfl) v) (fun i hi e => ?_)
      have := (o.lt i hi).1
      omega)
    generalize i.cells = cs at *
    generalize i.bytes = bs at *
    clear hp hv HV h hi
    go_enter Try.func16, Try.ntmps16
    go_wp2_with (first
      | (refine load_struct Try.underlying26 rfl Try.inoSize p cs (.tmp 0) rfl rfl rfl HP.out HZ.out ?_)
      | fail)
    refine C.out.mono ?_
    rintro e w1 ⟨rfl, k1⟩
    have K1 := Lib.hid k1
    have P1 := Lib.hid (k1.has HP.out)
    clear k1 C HP
    go_wp2_with (first
      | (refine load_struct Try.underlying26 rfl Try.inoSize p cs (.tmp 0) rfl rfl rfl P1.out HZ.out ?_)
      | fail)
    refine (D.out _).mono ?_
    rintro e w2 ⟨v, rfl, o2, k2⟩
    obtain ⟨hv2, r⟩ := K.out w1 w2 v K1.out o2 k2
    have R := Lib.hid r
    have x0 := hv2.cell 0
    have y0 := hv2.frozen 0
    simp only [List.getElem?_toArray, List.getElem?_cons_zero] at x0
    obtain ⟨A, c, rfl, _⟩ := owns_slice o2
    clear hv2 r o2 k2 K D K1
    go_wp2
    go_end0
    exact ⟨rfl, R.out⟩
  · rw [I14.chk_no h, endsIn_no (by decide)] at *
    have C := Lib.hid C
    have K : Hid (∀ w1, Still w w1 → IEnc1 w vb i w1) := Lib.hid (fun w1 k => ⟨k.mono (fun _ _ h => h.elim), _, k.has hv, fun h0 => absurd h0 h, fun _ => rfl⟩)
    generalize i.cells = cs at *
    clear hp hv h hi HV
    go_enter Try.func16, Try.ntmps16
    go_wp2_with (first
      | (refine load_struct Try.underlying26 rfl Try.inoSize p cs (.tmp 0) rfl rfl rfl HP.out HZ.out ?_)
      | fail)
    refine C.out.mono ?_
    rintro e w1 ⟨rfl, k1⟩
    have R := Lib.hid (K.out w1 k1)
    clear k1 C K
    go_wp2
    exact ⟨rfl, rfl, R.out⟩

/-- What Encode leaves. -/
def IEncStep (w : World) (i : I14) (e : Ending) (w' : World) : Prop :=
  ∃ v, e = .returned (.tuple #[v, .int .i64 i.chk]) ∧ (i.May → w'.ownsRow w.heap.size 5 1 v i.bytes.length (b8s i.bytes)) ∧ (¬ i.May → v = .slice none 0 0) ∧ Still w w'
set_option maxHeartbeats 1000000 in
theorem iencode_any (i : I14) (hi : i.Num) (w : World) : Calls Try.prog 8 #[.agg i.cells] w (IEncStep w i) := by
  obtain ⟨W, hW⟩ : ∃ W, W = (w.alloc (.cells i.cells 26)).alloc (.cells #[.slice none 0 0] 28) := ⟨_, rfl⟩
  have sW : W.heap.size = w.heap.size + 1 + 1 := by rw [hW]; simp
  have kW : Still w (W.alloc errBox) := by rw [hW]; exact (((Still.refl w).alloc _).alloc _).alloc _
  have hp : Has (W.alloc errBox) w.heap.size 26 i.cells := by rw [hW]; exact ((Has.new w 26 i.cells).alloc _).alloc _
  have hv : Has (W.alloc errBox) (w.heap.size + 1) 28 #[.slice none 0 0] := by
    rw [hW]
    have := (Has.new (w.alloc (.cells i.cells 26)) 28 #[.slice none 0 0]).alloc errBox
    simpa using this
  have C := Lib.hid (caught_any 16 _ Try.enterIEncode1 W i.chk (IEnc1 (W.alloc errBox) (w.heap.size + 1) i)
    ((iencode1_any i hi _ _ _ hp hv).mono fun e w' hh => ⟨hh.1, (Has.new W 29 #[.int .i64 0]).only hh.2.1 (by omega), hh.2⟩))
  have R : Hid (∀ w1 w2, IEnc1 (W.alloc errBox) (w.heap.size + 1) i w1 → Only (fun j => j = W.heap.size) w1 w2 → ∃ A n c, w2.cell? ⟨w.heap.size + 1, 0, none⟩ = some (.slice A n c) ∧ IEncStep w i (.returned (.tuple #[.slice A n c, .int .i64 i.chk])) w2) := Lib.hid (fun w1 w2 h1 k2 => by
    obtain ⟨k1, v, hb, hy, hn⟩ := h1
    have hb2 := hb.only k2 (by omega)
    have hc := hb2.cell 0
    have hs := kW.size
    have hs1 := k1.size
    have hz : (W.alloc errBox).heap.size = W.heap.size + 1 := by simp
    have hy2 : i.May → w2.ownsRow w.heap.size 5 1 v i.bytes.length (b8s i.bytes) := fun h0 => owns_only (owns_base (hy h0) hs) k2 (fun i hi e => by
      have := ((hy h0).lt i hi).1
      omega)
    have hk : Still w w2 := Only.trans (Only.trans kW k1 (fun i hi e => by omega)) k2 (fun i hi e => by omega)
    obtain ⟨A, n, c, rfl⟩ : ∃ A n c, v = .slice A n c := by
      by_cases h0 : i.May
      · obtain ⟨A, c, e, _⟩ := owns_slice (hy h0)
        exact ⟨A, _, c, e⟩
      · exact ⟨_, _, _, hn h0⟩
    exact ⟨A, n, c, by simpa using hc, _, rfl, hy2, hn, hk⟩)
  generalize i.chk = r at *
  rw [hW] at C R
  clear hp hv kW sW hW hi
  go_enter Try.func8, Try.ntmps8
  go_wp2_with fail
  refine C.out.mono ?_
  rintro e w2 ⟨rfl, w1, h1, k2⟩
  obtain ⟨A, n, c, hc, h⟩ := R.out w1 w2 h1 k2
  have H := Lib.hid h
  clear h1 k2 h R C
  go_wp2
  go_ret2
  exact H.out
end Go.Proofs.Ytjlipfddbpgglaa
