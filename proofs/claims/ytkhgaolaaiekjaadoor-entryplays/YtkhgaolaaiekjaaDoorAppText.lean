/-
  append of a text's bytes onto a row of one's own that is not empty; nothing of the program is used here.
-/
import Derived.Test.YtkhgaolaaiekjaaDoorTextA
import Derived.Lib.AppendStr
import Derived.Deep.RegionLaw
namespace Go.Proofs.YtkhgaolaaiekjaaDoor
open Go.RowKit
open Go.Lib
set_option maxRecDepth 100000

theorem strCells_of (l : List UInt8) : strCells (strOf l) = b8s l := by simp [strCells, strOf, b8s, b8]
section
variable {P : Program} (w : World)
theorem run_append_text (base : Nat) (t u ty e : TypeId) (i : TypeInfo) (ht : P.underlying t = some (.slice e)) (hu : P.underlying u = some .string) (hi : P.info? e = some i) (hz : i.zero = some (.int .u8 0))
    (hsize : i.size = 1) (hby : i.bytes = 1) (v : Value) (xs bs : List UInt8) (hown : w.ownsRow base e 1 v xs.length (b8s xs)) (hpos : 0 < xs.length) (hlen : (xs ++ bs).length ≤ 140737488355328) (hbase : base ≤ w.heap.size) :
    ∃ v' w', (Builtin.append_ #[t, u] ty #[v, .string (strOf bs)]).run P w = .ok v' w' ∧ w'.ownsRow base e 1 v' (xs ++ bs).length (b8s (xs ++ bs)) ∧ w.grownBy w' v.ownBlock ∧
      (v'.ownBlock = v.ownBlock ∨ v'.ownBlock = some w.heap.size) := by
  have hsz : (strOf bs).size = bs.length := strOf_size bs
  have hl : (xs ++ bs).length = xs.length + bs.length := List.length_append
  have hxl : (b8s xs).length = xs.length := b8s_length xs
  obtain ⟨v', w', hr, h2, h3, _⟩ := run_append_own_string (P := P) w base t u ty e i ht hu hi hz hsize hby v xs.length (b8s xs) hown (strOf bs) (by rw [hsz]; simp only [maxLen]; omega) (by omega) hbase
  refine ⟨v', w', hr, ?_, h3, ?_⟩
  · rw [hl, b8s_append, ← strCells_of bs, ← hsz]
    exact h2
  · rcases hown.2 with ⟨rfl, h0⟩ | ⟨g, cap, cur, rfl, hbg, hg, hnc, hcm, hcs, htake⟩
    · omega
    · by_cases hroom : xs.length + (strOf bs).size ≤ cap
      · have hcs' : cur.size = cap := by simpa using hcs
        have hr2 := run_append_room_string (P := P) w t u ty e i ht hu hi hsize g xs.length cap cur hg (strOf bs) hroom (by omega)
        rw [hr] at hr2
        injection hr2 with a b
        exact .inl (by rw [a]; rfl)
      · have hr2 := run_append_grow_string (P := P) w t u ty e i (.int .u8 0) ht hu hi hz ⟨g, 0, none⟩ xs.length cap (b8s xs) (by rw [hsize]; omega) (hown.cells (g := g) rfl) (strOf bs) (by omega) (by omega) (by rw [hby]; exact growslice_fits (by omega) (by omega))
        rw [hr] at hr2
        injection hr2 with a b
        exact .inr (by rw [a]; rfl)

theorem step_append_text {ops : Array Oper} {o : Oper} {a : Act} {K : Act → World → Prop} {Q : Exit → Act → World → Prop} {E : Prop} (hgd : o.guard = none) (s x : Operand) (t u : TypeId)
    (ho : o.op = .call { callee := .builtin .append, args := #[s, x], argTypes := #[t, u] })
    (base : Nat) (e : TypeId) (i : TypeInfo) (ht : P.underlying t = some (.slice e)) (hu : P.underlying u = some .string) (hi : P.info? e = some i) (hz : i.zero = some (.int .u8 0))
    (hsize : i.size = 1) (hby : i.bytes = 1) (v : Value) (xs bs : List UInt8) (hs : a.eval s = v) (hown : w.ownsRow base e 1 v xs.length (b8s xs)) (hpos : 0 < xs.length)
    (hx : a.eval x = .string (strOf bs)) (hlen : (xs ++ bs).length ≤ 140737488355328) (hbase : base ≤ w.heap.size)
    (h : ∀ v' w', w'.ownsRow base e 1 v' (xs ++ bs).length (b8s (xs ++ bs)) → w.grownBy w' v.ownBlock → (v'.ownBlock = v.ownBlock ∨ v'.ownBlock = some w.heap.size) → K (a.put o.dst v') w') :
    if Region.wanted o (yielded ops a.tmps) = true then Oper.wp P o a w K Q else E := by
  have hw : Region.wanted o (yielded ops a.tmps) = true := by simp [Region.wanted, hgd]
  rw [if_pos hw]
  obtain ⟨v', w', hr, h2, h3, h4⟩ := run_append_text (P := P) w base t u o.type e i ht hu hi hz hsize hby v xs bs hown hpos hlen hbase
  unfold Oper.wp execOp
  simp only [ho, resolve, invoke, builtin, Sem.run_bind, Sem.run_pure, Result.andThen_ok, List.map_toArray, List.map_cons, List.map_nil, hs, hx, hr]
  exact h v' w' h2 h3 h4
end
end Go.Proofs.YtkhgaolaaiekjaaDoor
