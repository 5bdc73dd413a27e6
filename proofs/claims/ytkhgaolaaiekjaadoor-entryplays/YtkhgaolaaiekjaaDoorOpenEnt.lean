/-
  Layer 13's arguments opened: entries, acts, names as they came in.
-/
import Derived.Test.YtkhgaolaaiekjaaDoorLaw13Sorted
import Derived.Test.YtkhgaolaaiekjaaDoorOpenArgs
import Derived.Deep.Grids
import Derived.Deep.Strs
namespace Go.Proofs.YtkhgaolaaiekjaaDoor
open Go.ChangeShapes Go.WideShapes Go.RowKit Go.Deep
set_option maxRecDepth 100000

theorem Tryd.entOne : ∀ fs, Tryd.prog.underlying 38 = some (.struct fs) → oneCellFields Tryd.prog fs = true := by
  intro fs h
  rw [Tryd.underlying38] at h
  injection h with h
  injection h with h
  subst h
  kernel_rfl
theorem Tryd.entCells : Tryd.prog.cellsOf 38 = 2 := by kernel_rfl
theorem add_one13 (p : Addr) (n : Nat) (h : n ≠ 0) : p.add n = ⟨p.block, p.off + n, none⟩ := by simp [Addr.add, h]
/-- An entry at a place. -/
structure EnAt (w : World) (p : Addr) (x : En) : Prop where
  c0 : w.cell? p = some (.string (strOf x.n))
  c1 : w.cell? ⟨p.block, p.off + 1, none⟩ = some (.int .u32 (x.i : Int))
  u32 : x.i < 4294967296
  len : x.n.length ≤ maxLen
theorem enC_at : ∀ (l : List En) (j : Nat) (u : Value), (enC l)[j]? = some u → ∃ (k : Nat) (hk : k < l.length), (j = k * 2 ∧ u = .string (strOf l[k].n)) ∨ (j = k * 2 + 1 ∧ u = .int .u32 (l[k].i : Int)) := by
  intro l j u h
  have hj := (List.getElem?_eq_some_iff.1 h).1
  rw [enC_length] at hj
  have hk : j / 2 < l.length := by omega
  obtain ⟨g0, g1⟩ := enC_get l (j / 2) hk
  refine ⟨j / 2, hk, ?_⟩
  rcases Nat.mod_two_eq_zero_or_one j with h0 | h0
  · have e : j = j / 2 * 2 := by omega
    left
    refine ⟨e, ?_⟩
    rw [e, g0] at h
    injection h with h
    rw [← h]
  · have e : j = j / 2 * 2 + 1 := by omega
    right
    refine ⟨e, ?_⟩
    rw [e, g1] at h
    injection h with h
    rw [← h]
theorem es_of_at {w : World} {a : Addr} {c : Nat} {l : List En} (h1 : l.length ≤ c) (h2 : c ≤ maxLen) (h : ∀ j (hj : j < l.length), EnAt w (a.add (j * 2)) l[j]) : EsIs w (fun i => i < w.heap.size) (.slice (some a) l.length c) l := by
  refine ⟨⟨some a, c, rfl, fun hn => ?_⟩, _, _, _, rfl, h1, h2⟩
  rw [enC_length] at hn
  have hb := World.block_lt_of_cell? w _ (h 0 (by omega)).c0
  rw [addr_block] at hb
  refine ⟨a, rfl, hb, hb, fun j u hu => ?_⟩
  obtain ⟨k, hk, ⟨rfl, rfl⟩ | ⟨rfl, rfl⟩⟩ := enC_at l j u hu
  · exact (h k hk).c0
  · have := (h k hk).c1
    have e2 : a.add (k * 2 + 1) = ⟨(a.add (k * 2)).block, (a.add (k * 2)).off + 1, none⟩ := by
      unfold Addr.add
      by_cases h0 : k * 2 = 0
      · simp [h0]
      · simp [h0]
        omega
    rw [e2]
    exact this

section
variable {H : Type} {enc : TypeId × Value → H} {w : World} {base : Nat} {held : Bool}
theorem open_e2 {spare : Nat → Bool} {fuel : Nat} {x0 x1 : Value} {x : DataW H × List MemPlace} (h : DataW.trod enc Tryd.prog w base spare held fuel 38 [x0, x1] = some x) :
    ∃ y : En, x0 = .string (strOf y.n) ∧ x1 = .int .u32 (y.i : Int) ∧ y.i < 4294967296 ∧ y.n.length ≤ maxLen := by
  obtain ⟨ys, n', hn', hy, hlen, hyl, hf⟩ := DataW.trod_struct Tryd.underlying38 h
  have ho := hone_of (Tryd.entOne _ Tryd.underlying38)
  have f0 := hf 0 _ rfl
  have f1 := hf 1 _ rfl
  rw [(ho 0 _ rfl).1, (ho 0 _ rfl).2] at f0
  rw [(ho 1 _ rfl).1, (ho 1 _ rfl).2] at f1
  have hy2 : ys.length = 2 := hyl
  rw [List.getElem?_eq_getElem (by omega)] at f0 f1
  obtain ⟨s0, e0, _, hs⟩ := DataW.trod_string Tryd.underlying9 f0
  obtain ⟨z1, e1, _, hw⟩ := DataW.trod_int Tryd.underlying36 f1
  simp at e0 e1
  subst e0 e1
  have hb := bounds_u32 hw
  have es : strOf s0.data.toList = s0 := ByteArray.ext (by simp [strOf])
  have ei : ((z1.toNat : Nat) : Int) = z1 := by omega
  exact ⟨⟨s0.data.toList, z1.toNat⟩, by rw [es], by rw [ei], by show z1.toNat < _; omega, by show s0.data.toList.length ≤ _; simpa using hs⟩
theorem open_entries {fuel : Nat} {cs : List Value} {x : DataW H × List MemPlace} (h : DataW.trod enc Tryd.prog w base (fun _ => true) held fuel 22 cs = some x) :
    ∃ A c l, cs = [.slice A (List.length (α := En) l) c] ∧ EsIs w (fun i => i < w.heap.size) (.slice A l.length c) l ∧ U32s l := by
  rcases open_slice Tryd.underlying22 h with ⟨rfl, _⟩ | ⟨a, len, cap, m, n, D, Pl, rfl, _, hl, hm, hmm, _, hi⟩
  · exact ⟨none, 0, [], rfl, EsIs.nil _ _, u32_nil⟩
  · have hlm : len ≤ m := by rw [hmm]; split <;> omega
    have hone : ∀ i, i < len → ∃ x : En, EnAt w (a.add (i * 2)) x := by
      intro i hil
      obtain ⟨cs', hc, ht'⟩ := hi i (by omega)
      rw [Tryd.entCells] at hc
      obtain ⟨_, hcl, hat⟩ := World.cells?_some hc
      match cs', hcl with
      | [x0, x1], _ =>
        obtain ⟨y, e0, e1, hy1, hy2⟩ := open_e2 ht'
        have a0 := hat 0 (by omega)
        have a1 := hat 1 (by omega)
        rw [add_one13 _ 1 (by omega)] at a1
        have ez : (a.add (i * 2)).add 0 = a.add (i * 2) := by simp [Addr.add]
        rw [ez] at a0
        refine ⟨y, ?_, ?_, hy1, hy2⟩
        · rw [a0, ← e0]
          rfl
        · rw [a1, ← e1]
          rfl
    haveI : Inhabited En := ⟨⟨[], 0⟩⟩
    obtain ⟨f, hf⟩ := choose_lt hone
    refine ⟨some a, cap, (List.range len).map f, by simp, ?_, ?_⟩
    · exact es_of_at (by simpa using hl) hm (fun j hj => by
        have hj' : j < len := by simpa using hj
        simpa using hf j hj')
    · intro y hy
      obtain ⟨j, hj, rfl⟩ := List.mem_map.1 hy
      exact (hf j (List.mem_range.1 hj)).u32
theorem open_names13 {fuel : Nat} {cs : List Value} {x : DataW H × List MemPlace} (h : DataW.trod enc Tryd.prog w base (fun _ => true) held fuel 47 cs = some x) :
    ∃ A c ns, cs = [.slice A (List.length (α := List UInt8) ns) c] ∧ SsIs w (fun i => i < w.heap.size) (.slice A ns.length c) ns := by
  rcases open_strs Tryd.underlying47 Tryd.underlying9 (by kernel_rfl) h with ⟨rfl, _⟩ | ⟨a, len, cap, m, S, rfl, _, hl, hm, hmm, _, hi⟩
  · exact ⟨none, 0, [], rfl, RwIs.nil _ _⟩
  · have hlm : len ≤ m := by rw [hmm]; split <;> omega
    refine ⟨some a, cap, (List.range len).map fun i => (S i).data.toList, by simp, some a, cap, rfl, fun hn => ?_⟩
    have h0 : 0 < len := by simpa [strs] using hn
    have hb := World.block_lt_of_cell? w _ (hi 0 (by omega)).1
    rw [addr_block] at hb
    refine ⟨a, rfl, hb, hb, fun j u hu => ?_⟩
    have hj : j < len := by
      have := (List.getElem?_eq_some_iff.1 hu).1
      simpa [strs] using this
    have es : strOf (S j).data.toList = S j := ByteArray.ext (by simp [strOf])
    rw [(hi j (by omega)).1, ← hu]
    simp [strs, hj, es]
/-- An act. -/
structure A13 where
  op : Int
  e : En
structure ActAt13 (w : World) (p : Addr) (x : A13) : Prop where
  c0 : w.cell? p = some (.int .i64 x.op)
  c1 : w.cell? ⟨p.block, p.off + 1, none⟩ = some (.string (strOf x.e.n))
  c2 : w.cell? ⟨p.block, p.off + 2, none⟩ = some (.int .u32 (x.e.i : Int))
  u32 : x.e.i < 4294967296
def ActsAt13 (w : World) (A : Option Addr) (xs : List A13) : Prop :=
  0 < xs.length → ∃ ad, A = some ad ∧ ad.block < w.heap.size ∧ ∀ j (hj : j < xs.length), ActAt13 w (ad.add (j * 3)) xs[j]
theorem Tryd.actCells13 : Tryd.prog.cellsOf 40 = 3 := by kernel_rfl
theorem open_a3 {fuel : Nat} {x0 x1 x2 : Value} {x : DataW H × List MemPlace} (h : DataW.trod enc Tryd.prog w base (fun _ => true) held fuel 40 [x0, x1, x2] = some x) :
    ∃ y : A13, x0 = .int .i64 y.op ∧ x1 = .string (strOf y.e.n) ∧ x2 = .int .u32 (y.e.i : Int) ∧ y.e.i < 4294967296 := by
  obtain ⟨ys, n', hn', hy, hlen, hyl, hf⟩ := DataW.trod_struct Tryd.underlying40 h
  have hy2 : ys.length = 2 := hyl
  have eI : Tryd.prog.cellsOf 3 = 1 := by kernel_rfl
  have f0 : DataW.trod enc Tryd.prog w base (fun _ => true) held n' 3 ((List.drop 0 [x0, x1, x2]).take (Tryd.prog.cellsOf 3)) = ys[0]? := hf 0 _ rfl
  rw [eI, List.getElem?_eq_getElem (by omega)] at f0
  have f1 : DataW.trod enc Tryd.prog w base (fun _ => true) held n' 38 ((List.drop 1 [x0, x1, x2]).take (Tryd.prog.cellsOf 38)) = ys[1]? := hf 1 _ rfl
  rw [Tryd.entCells, List.getElem?_eq_getElem (by omega)] at f1
  obtain ⟨z0, e0, _⟩ := DataW.trod_int Tryd.underlying3 (cs := [x0]) f0
  injection e0 with e0 _
  obtain ⟨y, e1, e2, h1, _⟩ := open_e2 (x0 := x1) (x1 := x2) f1
  exact ⟨⟨z0, y⟩, e0, e1, e2, h1⟩
theorem open_acts13 {fuel : Nat} {cs : List Value} {x : DataW H × List MemPlace} (h : DataW.trod enc Tryd.prog w base (fun _ => true) held fuel 35 cs = some x) :
    ∃ A c xs, cs = [.slice A (List.length (α := A13) xs) c] ∧ ActsAt13 w A xs := by
  rcases open_slice Tryd.underlying35 h with ⟨rfl, _⟩ | ⟨a, len, cap, m, n, D, Pl, rfl, _, hl, hm, hmm, _, hi⟩
  · exact ⟨none, 0, [], rfl, fun h => absurd h (by simp)⟩
  · have hlm : len ≤ m := by rw [hmm]; split <;> omega
    have hone : ∀ i, i < len → ∃ x : A13, ActAt13 w (a.add (i * 3)) x := by
      intro i hil
      obtain ⟨cs', hc, ht'⟩ := hi i (by omega)
      rw [Tryd.actCells13] at hc
      obtain ⟨_, hcl, hat⟩ := World.cells?_some hc
      match cs', hcl with
      | [x0, x1, x2], _ =>
        obtain ⟨y, e0, e1, e2, hy1⟩ := open_a3 ht'
        have a0 := hat 0 (by omega)
        have a1 := hat 1 (by omega)
        have a2 := hat 2 (by omega)
        rw [add_one13 _ 1 (by omega)] at a1
        rw [add_one13 _ 2 (by omega)] at a2
        have ez : (a.add (i * 3)).add 0 = a.add (i * 3) := by simp [Addr.add]
        rw [ez] at a0
        refine ⟨y, ?_, ?_, ?_, hy1⟩
        · rw [a0, ← e0]
          rfl
        · rw [a1, ← e1]
          rfl
        · rw [a2, ← e2]
          rfl
    haveI : Inhabited A13 := ⟨⟨0, ⟨[], 0⟩⟩⟩
    obtain ⟨f, hf⟩ := choose_lt hone
    refine ⟨some a, cap, (List.range len).map f, by simp, fun hn => ⟨a, rfl, ?_, fun j hj => ?_⟩⟩
    · have h0 : 0 < len := by simpa using hn
      have := World.block_lt_of_cell? w _ (hf 0 h0).c0
      rw [addr_block] at this
      exact this
    · have hj' : j < len := by simpa using hj
      simpa using hf j hj'
end
end Go.Proofs.YtkhgaolaaiekjaaDoor
