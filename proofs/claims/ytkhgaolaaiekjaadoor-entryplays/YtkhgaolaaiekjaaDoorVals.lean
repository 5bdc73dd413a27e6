/-
  Rows of one-cell values of one's own, and append onto them out of any slice; nothing of the program is used here.
-/
import Derived.Test.YtkhgaolaaiekjaaDoorMem
namespace Go.Proofs.YtkhgaolaaiekjaaDoor
open Go.RowKit

theorem owns_form {w : World} {B : Nat} {e : TypeId} {size n : Nat} {v : Value} {xs : List Value} (h : w.ownsRow B e size v n xs) : ∃ A n c, v = .slice A n c := by
  rcases h.2 with ⟨rfl, _⟩ | ⟨g, cap, cur, rfl, _⟩
  · exact ⟨_, _, _, rfl⟩
  · exact ⟨_, _, _, rfl⟩
/-- A slice value whose cells are these. -/
def VsIs (w : World) (x : Value) (news : List Value) : Prop := ∃ A c, x = .slice A news.length c ∧ (0 < news.length → ∃ ad, A = some ad ∧ ∀ j u, news[j]? = some u → w.cell? (ad.add j) = some u)
theorem VsIs.of_own {w : World} {B : Nat} {e : TypeId} {v : Value} {us : List Value} (h : w.ownsRow B e 1 v us.length us) : VsIs w v us := by
  rcases id h.2 with ⟨rfl, h0⟩ | ⟨g, cap, cur, rfl, _⟩
  · exact ⟨none, 0, by rw [h0], fun hn => by omega⟩
  · exact ⟨_, cap, rfl, fun _ => ⟨_, rfl, h.cells (g := g) rfl⟩⟩
theorem VsIs.one (w : World) (u : Value) (t : TypeId) : VsIs (w.alloc (.cells #[u] t)) (.slice (some ⟨w.heap.size, 0, none⟩) 1 1) [u] :=
  ⟨_, 1, rfl, fun _ => ⟨_, rfl, cell_one_new w u t⟩⟩

section
variable {P : Program} (w : World)
theorem run_append_vals (base : Nat) (t ty e : TypeId) (i : TypeInfo) (z : Value) (by' : Nat) (ht : P.underlying t = some (.slice e)) (hi : P.info? e = some i) (hz : i.zero = some z)
    (hsize : i.size = 1) (hby : i.bytes = by') (hzs : z.cells.size = 1) (v : Value) (us news : List Value) (hown : w.ownsRow base e 1 v us.length us)
    (x : Value) (hx : VsIs w x news) (h1 : ∀ u ∈ news, u.oneCell' = true) (hlen : (us ++ news).length * by' ≤ 140737488355328) (hlm : (us ++ news).length ≤ maxLen) (hbase : base ≤ w.heap.size) :
    ∃ v' w', (Builtin.append_ #[t, t] ty #[v, x]).run P w = .ok v' w' ∧ w'.ownsRow base e 1 v' (us ++ news).length (us ++ news) ∧ w.grownBy w' v.ownBlock ∧
      (v'.ownBlock = v.ownBlock ∨ v'.ownBlock = some w.heap.size) := by
  obtain ⟨A, c, rfl, hr⟩ := hx
  have hl : (us ++ news).length = us.length + news.length := List.length_append
  cases A with
  | none =>
    have hb : news = [] := by
      rcases Nat.eq_zero_or_pos news.length with h0 | h0
      · exact List.eq_nil_of_length_eq_zero h0
      · obtain ⟨ad, h, _⟩ := hr h0
        cases h
    subst hb
    exact ⟨v, w, run_append_nothing w base t ty e i 1 ht hi v _ _ hown c, by simpa using hown, ⟨rfl, rfl, rfl, Nat.le_refl _, fun _ _ _ => rfl⟩, .inl rfl⟩
  | some ad =>
    have hcells : ∀ j u, news[j]? = some u → w.cell? (ad.add j) = some u := by
      intro j u hu
      rcases Nat.eq_zero_or_pos news.length with h0 | h0
      · rw [List.eq_nil_of_length_eq_zero h0] at hu
        simp at hu
      · obtain ⟨ad', h, hc⟩ := hr h0
        injection h with h
        subst h
        exact hc j u hu
    obtain ⟨v', w', hrun, h2, h3, _, h5⟩ := run_append_own_at (P := P) w base t ty e i z 1 by' ht hi hz hsize hby hzs (by omega) v us.length us hown ad news.length c news (by omega) hcells h1
      (by omega) (by rw [← hl]; exact hlen) hbase
    refine ⟨v', w', hrun, ?_, h3, h5⟩
    rw [hl]
    exact h2
theorem wpList_append_vals {ops : Array Oper} {rest : List Oper} {o : Oper} {a : Act} {Q : Exit → Act → World → Prop} (hgd : o.guard = none) (s x : Operand) (t : TypeId)
    (ho : o.op = .call { callee := .builtin .append, args := #[s, x], argTypes := #[t, t] })
    (base : Nat) (e : TypeId) (i : TypeInfo) (z : Value) (by' : Nat) (ht : P.underlying t = some (.slice e)) (hi : P.info? e = some i) (hz : i.zero = some z)
    (hsize : i.size = 1) (hby : i.bytes = by') (hzs : z.cells.size = 1) (v : Value) (us news : List Value) (hs : a.eval s = v) (hown : w.ownsRow base e 1 v us.length us)
    (xv : Value) (hxv : a.eval x = xv) (hx : VsIs w xv news) (h1 : ∀ u ∈ news, u.oneCell' = true) (hlen : (us ++ news).length * by' ≤ 140737488355328) (hlm : (us ++ news).length ≤ maxLen) (hbase : base ≤ w.heap.size)
    (h : ∀ v' w', w'.ownsRow base e 1 v' (us ++ news).length (us ++ news) → w.grownBy w' v.ownBlock → (v'.ownBlock = v.ownBlock ∨ v'.ownBlock = some w.heap.size) → wpList P ops Q rest (a.put o.dst v') w') :
    wpList P ops Q (o :: rest) a w := by
  refine wpList_plain hgd fun K hK => ?_
  obtain ⟨v', w', hr, h2, h3, h4⟩ := run_append_vals (P := P) w base t o.type e i z by' ht hi hz hsize hby hzs v us news hown xv hx h1 hlen hlm hbase
  unfold Oper.wp execOp
  simp only [ho, resolve, invoke, builtin, Sem.run_bind, Sem.run_pure, Result.andThen_ok, List.map_toArray, List.map_cons, List.map_nil, hs, hxv, hr]
  exact hK _ _ (h v' w' h2 h3 h4)
theorem step_append_vals {ops : Array Oper} {o : Oper} {a : Act} {K : Act → World → Prop} {Q : Exit → Act → World → Prop} {E : Prop} (hgd : o.guard = none) (s x : Operand) (t : TypeId)
    (ho : o.op = .call { callee := .builtin .append, args := #[s, x], argTypes := #[t, t] })
    (base : Nat) (e : TypeId) (i : TypeInfo) (z : Value) (by' : Nat) (ht : P.underlying t = some (.slice e)) (hi : P.info? e = some i) (hz : i.zero = some z)
    (hsize : i.size = 1) (hby : i.bytes = by') (hzs : z.cells.size = 1) (v : Value) (us news : List Value) (hs : a.eval s = v) (hown : w.ownsRow base e 1 v us.length us)
    (xv : Value) (hxv : a.eval x = xv) (hx : VsIs w xv news) (h1 : ∀ u ∈ news, u.oneCell' = true) (hlen : (us ++ news).length * by' ≤ 140737488355328) (hlm : (us ++ news).length ≤ maxLen) (hbase : base ≤ w.heap.size)
    (h : ∀ v' w', w'.ownsRow base e 1 v' (us ++ news).length (us ++ news) → w.grownBy w' v.ownBlock → (v'.ownBlock = v.ownBlock ∨ v'.ownBlock = some w.heap.size) → K (a.put o.dst v') w') :
    if Region.wanted o (yielded ops a.tmps) = true then Oper.wp P o a w K Q else E := by
  have hw : Region.wanted o (yielded ops a.tmps) = true := by simp [Region.wanted, hgd]
  rw [if_pos hw]
  obtain ⟨v', w', hr, h2, h3, h4⟩ := run_append_vals (P := P) w base t o.type e i z by' ht hi hz hsize hby hzs v us news hown xv hx h1 hlen hlm hbase
  unfold Oper.wp execOp
  simp only [ho, resolve, invoke, builtin, Sem.run_bind, Sem.run_pure, Result.andThen_ok, List.map_toArray, List.map_cons, List.map_nil, hs, hxv, hr]
  exact h v' w' h2 h3 h4
end
end Go.Proofs.YtkhgaolaaiekjaaDoor
