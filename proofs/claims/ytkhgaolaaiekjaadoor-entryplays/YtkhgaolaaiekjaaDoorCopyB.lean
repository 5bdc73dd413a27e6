/-
  Bytes made, set and copied: out of a slice, out of a text.
-/
import Derived.Test.YtkhgaolaaiekjaaDoorNumA
import Derived.Laws.CopyOwn
import Derived.Laws.OwnMore
import Derived.OwnWalk
import Derived.Test.YtkhgaolaaiekjaaDoorDrawn
import Derived.Lib.BufferWrite
namespace Go.Proofs.YtkhgaolaaiekjaaDoor
open Go.RowKit Go.Lib
set_option maxRecDepth 100000

theorem b8s_replicate (n : Nat) (c : UInt8) : b8s (List.replicate n c) = List.replicate n (b8 c) := by simp [b8s]
theorem b8s_set (l : List UInt8) (i : Nat) (c : UInt8) : b8s (l.set i c) = (b8s l).set i (b8 c) := by simp [b8s, List.map_set]
theorem made_zero (n : Nat) : (madeCells (Value.int .u8 0).cells (n * 1)).toList = b8s (List.replicate n 0) := by
  rw [b8s_replicate, Nat.mul_one]
  apply List.ext_getElem?
  intro j
  by_cases hj : j < n
  · simp [madeCells, hj, Nat.mod_one, Value.cells, b8]
  · simp [madeCells, hj]
/-- Bytes of zero, made. -/
theorem make_bytes (n : Nat) (hn : n ≤ 1000000) (w : World) : ∃ w', (Instr.makeSlice 25 (.int .i64 (n : Int)) (.int .i64 (n : Int))).run Tryd.prog w = .ok (.slice (some ⟨w.heap.size, 0, none⟩) n n) w' ∧
    w'.ownsRow w.heap.size 5 1 (.slice (some ⟨w.heap.size, 0, none⟩) n n) n (b8s (List.replicate n 0)) ∧ Only (fun _ => False) w w' ∧ w.heap.size < w'.heap.size := by
  obtain ⟨i0, hi0, hz0, hz1, hz2⟩ := info_parts Tryd.info8
  obtain ⟨w1, hmk, o1, g1⟩ := run_make_full (P := Tryd.prog) w w.heap.size 25 5 i0 (.int .u8 0) 1 Tryd.underlying25 hi0 hz0 hz1 .i64 .i64 n (by rw [hz2]; omega) (by simp [maxLen]; omega) (Nat.le_refl _)
  rw [made_zero] at o1
  exact ⟨w1, hmk, o1, (Only.of_grown g1).mono (fun i _ h => by cases h), (o1.lt _ rfl).2⟩
/-- One byte set. -/
theorem set_byte {w : World} {B b n : Nat} {l : List UInt8} (h : w.ownsRow B 5 1 (.slice (some ⟨b, 0, none⟩) n n) n (b8s l)) (i : Nat) (c : UInt8) :
    (w.setCell ⟨b, i, none⟩ (b8 c)).ownsRow B 5 1 (.slice (some ⟨b, 0, none⟩) n n) n (b8s (l.set i c)) ∧ Only (fun i => i = b) w (w.setCell ⟨b, i, none⟩ (b8 c)) := by
  refine ⟨?_, (Only.refl (fun i => i = b) w).setCell (p := ⟨b, i, none⟩) (fun _ => rfl) _⟩
  rw [b8s_set]
  exact (World.ownsRow.stored h i (b8 c)).1

theorem addr_zero8 (ad : Addr) : ad.add 0 = ad := by simp [Addr.add]
theorem SlIs.head {w : World} {lo hi n c : Nat} {A : Option Addr} {l : List UInt8} (h : SlIs w lo hi (.slice A n c) l) (hl : 0 < l.length) : ∃ ad, A = some ad ∧ lo ≤ ad.block ∧ ad.block < hi ∧ w.cell? ad = some (b8 l[0]) := by
  obtain ⟨A', c', e, _, _, h⟩ := h
  injection e with e _ _
  subst e
  obtain ⟨ad, e, h1, h2, h3⟩ := h.at hl
  rw [addr_zero8] at h3
  exact ⟨ad, e, h1, h2, h3⟩

/-- Bytes copied to the front of bytes of zero. -/
def cpy (z : Nat) (b : List UInt8) : List UInt8 := b.take z ++ List.replicate (z - b.length) 0
theorem cpy_length (z : Nat) (b : List UInt8) : (cpy z b).length = z := by simp [cpy]; omega
theorem Tryd.sizeU8 : (Tryd.prog.info? 5).map (·.size) = some 1 := by kernel_rfl
theorem copy_bytes {w : World} {B gb z : Nat} {b : List UInt8} {A : Option Addr} {c : Nat} {lo hi : Nat} (h : w.ownsRow B 5 1 (.slice (some ⟨gb, 0, none⟩) z z) z (b8s (List.replicate z 0))) (hx : SlIs w lo hi (.slice A b.length c) b) :
    ∃ (m : Int) (w' : World), (Builtin.copy_ #[25, 25] 3 #[.slice (some ⟨gb, 0, none⟩) z z, .slice A b.length c]).run Tryd.prog w = .ok (.int .i64 m) w' ∧ w'.ownsRow B 5 1 (.slice (some ⟨gb, 0, none⟩) z z) z (b8s (cpy z b)) ∧ Only (fun i => i = gb) w w' := by
  by_cases h0 : Nat.min b.length z = 0
  · refine ⟨0, w, run_copy_none (P := Tryd.prog) w 25 25 3 5 _ _ _ _ _ _ Tryd.underlying25 Tryd.sizeU8 h0, ?_, Only.refl _ _⟩
    have e : cpy z b = List.replicate z 0 := by
      unfold cpy
      rcases Nat.eq_zero_or_pos b.length with hb | hb
      · have := List.eq_nil_of_length_eq_zero hb
        subst this
        simp
      · have h0' : min b.length z = 0 := h0
        have hz : z = 0 := by omega
        subst hz
        simp
    rw [e]
    exact h
  · obtain ⟨A', c', e, _, _, hr⟩ := hx
    injection e with e1 e2 e3
    subst e1 e3
    have hmn : Nat.min b.length z = (b.take z).length := by simp [Nat.min_comm]
    obtain ⟨ad, rfl, _, _, hcl⟩ := hr (by
      rcases Nat.eq_zero_or_pos b.length with hb | hb
      · rw [hb] at h0
        exact absurd (Nat.zero_min z) h0
      · exact hb)
    rcases id h.2 with ⟨hn, _⟩ | ⟨g', cap, cur, he, hB, hg, h1, h2, h3, h4⟩
    · cases hn
    · injection he with e1 _ e3
      injection e1 with e1
      injection e1 with e1
      subst e1 e3
      have hcur : cur.size = z := by simpa using h3
      have hcl' : ∀ j u, (b8s (b.take z))[j]? = some u → w.cell? (ad.add j) = some u := fun j u hu => by
        refine hcl j u ?_
        simp only [b8s, List.getElem?_map, List.getElem?_take] at hu ⊢
        split at hu
        · exact hu
        · simp at hu
      have hrun := run_copy_row (P := Tryd.prog) w 25 25 3 5 gb 0 z z ad b.length c cur 5 (b8s (b.take z)) Tryd.underlying25 Tryd.sizeU8 hg (by rw [b8s_length]; exact hmn.symm) hcl' (by rw [b8s_length, hcur]; simp; omega) (b8s_one _)
      refine ⟨_, _, hrun, ?_, ?_⟩
      · have hrow : (cur.toList.take 0 ++ b8s (b.take z) ++ cur.toList.drop (0 + (b8s (b.take z)).length)) = b8s (cpy z b) := by
          have hcz : cur.toList = b8s (List.replicate z 0) := by
            have := h4
            simp only [Nat.mul_one] at this
            rw [List.take_of_length_le (by simp [hcur])] at this
            exact this
          rw [hcz, List.take_zero, List.nil_append, Nat.zero_add, b8s_length, cpy, b8s_append]
          congr 1
          rw [b8s_replicate, b8s_replicate, List.drop_replicate]
          congr 1
          simp
          omega
        rw [hrow]
        refine ⟨by rw [b8s_length, cpy_length, Nat.mul_one], .inr ⟨gb, z, (b8s (cpy z b)).toArray, rfl, hB, setRow_heap w gb cur _ 5 _ hg, Nat.le_refl _, h2, by simp [b8s_length, cpy_length], ?_⟩⟩
        simp
        rw [List.take_of_length_le (by simp [b8s_length, cpy_length])]
      · exact Only.setRow (Only.refl (fun i => i = gb) w) (fun _ => rfl) _

/-- The same out of a text. -/
theorem copy_text {w : World} {B gb z : Nat} {b : List UInt8} (h : w.ownsRow B 5 1 (.slice (some ⟨gb, 0, none⟩) z z) z (b8s (List.replicate z 0))) (hb : b.length ≤ z) :
    ∃ (w' : World), (Builtin.copy_ #[25, 9] 3 #[.slice (some ⟨gb, 0, none⟩) z z, .string (strOf b)]).run Tryd.prog w = .ok (.int .i64 (b.length : Int)) w' ∧ w'.ownsRow B 5 1 (.slice (some ⟨gb, 0, none⟩) z z) z (b8s (cpy z b)) ∧ Only (fun i => i = gb) w w' := by
  rcases id h.2 with ⟨hn, _⟩ | ⟨g', cap, cur, he, hB, hg, h1, h2, h3, h4⟩
  · cases hn
  · injection he with e1 _ e3
    injection e1 with e1
    injection e1 with e1
    subst e1 e3
    have hcur : cur.size = z := by simpa using h3
    have hsz : (strOf b).size = b.length := by simp [strOf, ByteArray.size]
    have hrun := run_copy_row_string (P := Tryd.prog) w 25 9 3 5 gb 0 z z (strOf b) cur 5 Tryd.underlying25 Tryd.sizeU8 hg (by rw [hsz]; exact hb) (by rw [hsz, hcur]; omega)
    rw [hsz] at hrun
    refine ⟨_, hrun, ?_, ?_⟩
    · have hrow : (cur.toList.take 0 ++ byteCells (strOf b).data.toList ++ cur.toList.drop (0 + b.length)) = b8s (cpy z b) := by
        have hcz : cur.toList = b8s (List.replicate z 0) := by
          have := h4
          simp only [Nat.mul_one] at this
          rw [List.take_of_length_le (by simp [hcur])] at this
          exact this
        have hbc : byteCells (strOf b).data.toList = b8s b := by rw [strOf_toList]; rfl
        rw [hcz, hbc, List.take_zero, List.nil_append, Nat.zero_add, cpy, b8s_append, List.take_of_length_le hb]
        congr 1
        rw [b8s_replicate, b8s_replicate, List.drop_replicate]
      rw [hrow]
      refine ⟨by rw [b8s_length, cpy_length, Nat.mul_one], .inr ⟨gb, z, (b8s (cpy z b)).toArray, rfl, hB, setRow_heap w gb cur _ 5 _ hg, Nat.le_refl _, h2, by simp [b8s_length, cpy_length], ?_⟩⟩
      simp
      rw [List.take_of_length_le (by simp [b8s_length, cpy_length])]
    · exact Only.setRow (Only.refl (fun i => i = gb) w) (fun _ => rfl) _
end Go.Proofs.YtkhgaolaaiekjaaDoor
