/-
  Bytes of zero appended to a row of bytes of one's own ('append(b, make([]byte, n)...)'), and bytes appended to a row that has no room; nothing of the program is used here.
-/
import Derived.Test.YtjlipfddbpgglaaMem
import Derived.Lib.AppendZeros
import Derived.Deep.RegionLawGrows
import Derived.ArgAppend
namespace Go.Proofs.Ytjlipfddbpgglaa
open Go.RowKit

theorem zeros_list (n : Nat) : Builtin.zeroCells (Value.int .u8 0).cells n = (b8s (List.replicate n 0)).toArray := by
  apply Array.ext'
  simp only [Builtin.zeroCells, Value.cells, b8s, Array.toList_map, Array.toList_range]
  apply List.ext_getElem?
  intro j
  by_cases hj : j < n
  · simp [hj, Nat.mod_one, b8]
  · simp [hj]

section
variable {P : Program} (w : World)
theorem run_append_zeros (base : Nat) (t tn ty e : TypeId) (i : TypeInfo) (kn : IntKind) (ht : P.underlying t = some (.slice e)) (htn : P.underlying tn = some (.int kn)) (hi : P.info? e = some i) (hz : i.zero = some (.int .u8 0))
    (hsize : i.size = 1) (hby : i.bytes = 1) (v : Value) (xs : List UInt8) (hown : w.ownsRow base e 1 v xs.length (b8s xs)) (hx : 0 < xs.length) (n : Nat) (hn : 0 < n) (hl : xs.length + n ≤ 1000000) (hbase : base ≤ w.heap.size) :
    ∃ v' w', (Builtin.append_ #[t, tn] ty #[v, .int .i64 n]).run P w = .ok v' w' ∧ w'.ownsRow base e 1 v' (xs ++ List.replicate n 0).length (b8s (xs ++ List.replicate n 0)) ∧ w.grownBy w' v.ownBlock := by
  have hn0 : ¬ (n = 0) := by omega
  have hw : IntKind.i64.wrap (n : Int) = n := by rw [IntKind.wrap_i64]; omega
  have hneg : ¬ ((n : Int) < 0) := by omega
  have h48 : ¬ (281474976710656 < (n : Int)) := by omega
  have h63 : ¬ (9223372036854775807 < (xs.length : Int) + (n : Int)) := by omega
  have hL : (xs ++ List.replicate n 0).length = xs.length + n := by simp
  have hB : (b8s (xs ++ List.replicate n 0)).length = xs.length + n := by rw [b8s_length, hL]
  rcases id hown.2 with ⟨rfl, h0⟩ | ⟨g, cap, cur, rfl, hbg, hg, hnc, hcm, hcs, htake⟩
  · omega
  · have hcs' : cur.size = cap := by simpa using hcs
    have ht' : cur.toList.take xs.length = b8s xs := by simpa using htake
    by_cases hroom : xs.length + n ≤ cap
    · have hfit : xs.length * 1 + (b8s (List.replicate n 0)).length ≤ cur.size := by
        rw [b8s_length, hcs']
        simp
        omega
      have hst := run_storeCells_at P g (xs.length * 1) e (b8s (List.replicate n 0)) 0 cur w hg (by simpa using hfit) (b8s_one _)
      simp only [Nat.add_zero, Nat.mul_one] at hst
      refine ⟨.slice (some ⟨g, 0, none⟩) (xs.length + n) cap, w.setRow g (cur.toList.take xs.length ++ b8s (List.replicate n 0) ++ cur.toList.drop (xs.length + (b8s (List.replicate n 0)).length)).toArray, ?_, ?_, ?_⟩
      · simp [Builtin.append_, run_underlying ht, run_underlying htn, sizeOf, typeInfo, zeroValue, hi, hz, hsize, hby, asInt, asIntOf, hw, hn0, hneg, h48, hroom, zeros_list, Addr.add_lit, hst]
      · rw [hL]
        refine ⟨by rw [hB, Nat.mul_one], .inr ⟨g, cap, _, rfl, hbg, setRow_heap w g cur _ e _ hg, hroom, hcm, ?_, ?_⟩⟩
        · simp only [List.size_toArray, List.length_append, List.length_take, List.length_drop, Array.length_toList, b8s_length, List.length_replicate]
          omega
        · rw [ht', ← b8s_append, Nat.mul_one, ← hB]
          exact List.take_left
      · exact ⟨rfl, rfl, rfl, by simp, fun k _ hk => setRow_other w g k _ (fun e => hk (by simp [Value.ownBlock, e]))⟩
    · have hge := grownCap_ge w (xs.length + n) cap e
      have hcl := grownCap_le_maxLen w (xs.length + n) cap e (by simp only [maxLen]; omega)
      have hgf := growslice_fits (need := xs.length + n) (old := cap) (bytes := 1) (by omega) (by omega)
      have h48' : ¬ (281474976710656 < Builtin.nextslicecap (xs.length + n) cap) := by omega
      have hfo := run_firstCells_some (P := P) w.drew i.size xs.length ⟨g, 0, none⟩ xs.length cap (b8s xs) (by rw [b8s_length, hsize, Nat.mul_one]) (fun j u hu => hown.cells (g := g) rfl j u hu)
      rw [hsize] at hfo
      refine ⟨.slice (some ⟨w.heap.size, 0, none⟩) (xs.length + n) (grownCap w (xs.length + n) cap e), w.drew.alloc (.cells ((b8s xs).toArray ++ (b8s (List.replicate n 0)).toArray ++ Builtin.zeroCells (Value.int .u8 0).cells (grownCap w (xs.length + n) cap e - (xs.length + n))) e), ?_, ?_, ?_⟩
      · simp [Builtin.append_, run_underlying ht, run_underlying htn, sizeOf, typeInfo, zeroValue, hi, hz, hsize, hby, asInt, asIntOf, hw, hn0, hneg, h48, h63, hroom, h48', Question.forced, hfo, newRow, grownCap, zeros_list]
      · rw [hL]
        refine ⟨by rw [hB, Nat.mul_one], .inr ⟨w.heap.size, _, _, rfl, hbase, heap_alloc_new w.drew _, hge, hcl, ?_, ?_⟩⟩
        · simp only [Array.size_append, List.size_toArray, b8s_length, List.length_replicate, zeros_list]
          omega
        · simp only [Array.toList_append, List.append_assoc]
          rw [← List.append_assoc, ← b8s_append, Nat.mul_one, ← hB]
          exact List.take_left
      · exact ⟨rfl, rfl, rfl, by simp, fun k hk _ => heap_alloc_old w.drew _ hk⟩
end
end Go.Proofs.Ytjlipfddbpgglaa
