/-
  Package entry: a slice that reads as entries; layer 13's own few and same.
-/
import Derived.Test.YtkhgaolaaiekjaaDoorEntA
import Derived.Test.YtkhgaolaaiekjaaDoorRowIs
import Derived.Test.YtkhgaolaaiekjaaDoorFault
import Derived.Test.YtkhgaolaaiekjaaDoorStill
import Derived.Deep.QuietTactic
import Derived.BigQuiet
import Derived.Deep.Cut
import Derived.Deep.CutRange
namespace Go.Proofs.YtkhgaolaaiekjaaDoor
open Go.RowKit Go.Lib
set_option maxRecDepth 100000

/-- An entry's cells; a row's. -/
def En.cells (x : En) : List Value := [.string (strOf x.n), .int .u32 (x.i : Int)]
def enC (l : List En) : List Value := l.flatMap En.cells
theorem enC_length : ∀ l : List En, (enC l).length = l.length * 2
  | [] => rfl
  | x :: l => by
    have := enC_length l
    simp only [enC, List.flatMap_cons, List.length_append, List.length_cons] at this ⊢
    simp only [En.cells, List.length_cons, List.length_nil]
    omega
theorem enC_append (l m : List En) : enC (l ++ m) = enC l ++ enC m := by simp [enC]
theorem enC_get : ∀ (l : List En) (k : Nat) (h : k < l.length), (enC l)[k * 2]? = some (.string (strOf l[k].n)) ∧ (enC l)[k * 2 + 1]? = some (.int .u32 (l[k].i : Int))
  | x :: l, 0, _ => ⟨rfl, rfl⟩
  | x :: l, k + 1, h => by
    have := enC_get l k (by simpa using h)
    rw [show (k + 1) * 2 = k * 2 + 2 from by omega]
    exact this
theorem enC_one (l : List En) : ∀ u ∈ enC l, u.oneCell' = true := by
  intro u hu
  obtain ⟨x, _, hx⟩ := List.mem_flatMap.1 hu
  rcases List.mem_cons.1 hx with rfl | hx
  · rfl
  · rcases List.mem_cons.1 hx with rfl | hx
    · rfl
    · cases hx
/-- A slice is no longer than what it may grow to. -/
def Caps (v : Value) : Prop := ∃ A n c, v = .slice A n c ∧ n ≤ c ∧ c ≤ maxLen
theorem Caps.of_own {w : World} {B : Nat} {e : TypeId} {size n : Nat} {v : Value} {xs : List Value} (h : w.ownsRow B e size v n xs) : Caps v := by
  rcases h.2 with ⟨rfl, h0⟩ | ⟨g, cap, cur, rfl, _, _, h1, h2, _⟩
  · exact ⟨none, 0, 0, rfl, Nat.le_refl _, by simp [maxLen]⟩
  · exact ⟨_, n, cap, rfl, h1, h2⟩
theorem Caps.slice {A : Option Addr} {n c : Nat} (h : Caps (.slice A n c)) : n ≤ c ∧ c ≤ 9223372036854775807 := by
  obtain ⟨A', n', c', e, h1, h2⟩ := h
  injection e with _ e1 e2
  subst e1 e2
  exact ⟨h1, by simpa [maxLen] using h2⟩
/-- A slice that reads as these entries. -/
def EsIs (w : World) (E : Nat → Prop) (v : Value) (l : List En) : Prop := RwIs w E l.length v (enC l) ∧ Caps v
theorem EsIs.only {a b : World} {S E : Nat → Prop} {v : Value} {l : List En} (h : EsIs a E v l) (k : Only S a b) (hn : ∀ i, i < a.heap.size → E i → ¬ S i) : EsIs b E v l := ⟨RwIs.only h.1 k hn, h.2⟩
theorem EsIs.mono {w : World} {E F : Nat → Prop} {v : Value} {l : List En} (h : EsIs w E v l) (hs : ∀ i, i < w.heap.size → E i → F i) : EsIs w F v l := ⟨RwIs.mono h.1 hs, h.2⟩
theorem EsIs.nil (w : World) (E : Nat → Prop) : EsIs w E (.slice none 0 0) [] := ⟨RwIs.nil w E, none, 0, 0, rfl, Nat.le_refl _, by simp [maxLen]⟩
theorem EsIs.of_own {w : World} {B : Nat} {e : TypeId} {v : Value} {l : List En} (h : w.ownsRow B e 2 v l.length (enC l)) : EsIs w (fun i => v.ownBlock = some i) v l := ⟨RwIs.of_own h, Caps.of_own h⟩
theorem EsIs.at {w : World} {E : Nat → Prop} {v : Value} {l : List En} (h : EsIs w E v l) {k : Nat} (hk : k < l.length) :
    ∃ ad c, v = .slice (some ad) l.length c ∧ w.cell? (ad.add (k * 2)) = some (.string (strOf l[k].n)) ∧ w.cell? ⟨(ad.add (k * 2)).block, (ad.add (k * 2)).off + 1, none⟩ = some (.int .u32 (l[k].i : Int)) := by
  obtain ⟨⟨A, c, e, h3⟩, _⟩ := h
  obtain ⟨ad, q1, q2, q3, q4⟩ := h3 (by rw [enC_length]; omega)
  obtain ⟨g0, g1⟩ := enC_get l k hk
  refine ⟨ad, c, by rw [e, q1], q4 _ _ g0, ?_⟩
  have := q4 _ _ g1
  have e2 : ad.add (k * 2 + 1) = ⟨(ad.add (k * 2)).block, (ad.add (k * 2)).off + 1, none⟩ := by
    unfold Addr.add
    by_cases h0 : k * 2 = 0
    · simp [h0]
    · simp [h0]
      omega
  rwa [e2] at this
theorem EsIs.form {w : World} {E : Nat → Prop} {v : Value} {l : List En} (h : EsIs w E v l) : ∃ A c, v = .slice A l.length c := by
  obtain ⟨⟨A, c, e, _⟩, _⟩ := h
  exact ⟨A, c, e⟩
theorem EsIs.drewN {w : World} {E : Nat → Prop} {v : Value} {l : List En} (h : EsIs w E v l) (q : Nat) : EsIs (w.drewN q) E v l := h

/-! ### few -/
def FewE (l : List En) : Prop := l.length ≤ 60 ∧ ∀ x ∈ l, x.n.length ≤ 100
instance (l : List En) : Decidable (FewE l) := by unfold FewE; infer_instance
set_option maxHeartbeats 1000000 in
theorem few13_any (E : Nat → Prop) (v : Value) (l : List En) (w : World) (h : EsIs w E v l) : Calls Tryd.prog 9 #[v] w fun e w' => e = .returned (.bool (decide (FewE l))) ∧ w = w' := by
  obtain ⟨A, c, rfl⟩ := h.form
  have H := Lib.hid h
  clear h
  by_cases hl : l.length ≤ 60
  · have d1 : decide (60 < (l.length : Int)) = false := decide_eq_false (by omega)
    go_enter Tryd.func9, Tryd.ntmps9
    go_wp2
    go_loopw [3] (fun i wr => ∃ k : Nat, k ≤ l.length ∧ i = .int .i64 k ∧ Hid (∀ j (hj : j < l.length), j < k → (l[j]).n.length ≤ 100) ∧ wr = w) (fun i _ => l.length - (intOf i).toNat)
    case atStart => exact ⟨0, Nat.zero_le _, rfl, Lib.hid (fun j _ h => absurd h (by omega)), rfl⟩
    case round =>
      obtain ⟨k, hk, rfl, hrel, rfl⟩ := hrel
      by_cases hlt : k < l.length
      · obtain ⟨ad, c', e, z0, z1⟩ := H.out.at hlt
        injection e with e1 _ e2
        subst e1 e2
        obtain ⟨x, hx⟩ : ∃ x, x = l[k] := ⟨_, rfl⟩
        rw [← hx] at z0 z1
        have i0 : (0 : Int) ≤ (k : Int) := by omega
        have i1 : (k : Int) < (l.length : Int) := by omega
        have sz : (strOf x.n).size = x.n.length := rfl
        by_cases hx2 : x.n.length ≤ 100
        · have d2 : decide (100 < (x.n.length : Int)) = false := decide_eq_false (by omega)
          have R : Hid (∀ j (hj : j < l.length), j < k + 1 → (l[j]).n.length ≤ 100) := Lib.hid (fun j hj h1 => by
            rcases Nat.lt_or_eq_of_le (Nat.le_of_lt_succ h1) with h2 | h2
            · exact hrel.out j hj h2
            · subst h2
              rw [← hx]
              exact hx2)
          clear hx hrel
          go_wp2
          go_roundw
          case rel => exact ⟨k + 1, by omega, by go_num, R, trivial⟩
          case measure => simp [intOf]; omega
        · have d2 : decide (100 < (x.n.length : Int)) = true := decide_eq_true (by omega)
          have R : Hid (decide (FewE l) = false) := Lib.hid (decide_eq_false fun hf => hx2 (by rw [hx]; exact hf.2 _ (List.getElem_mem hlt)))
          clear hx hrel
          go_wp2
          go_ret
          exact ⟨by rw [R.out]; rfl, rfl⟩
      · have R : Hid (decide (FewE l) = true) := Lib.hid (decide_eq_true ⟨hl, fun x hx => by
          obtain ⟨j, hj, rfl⟩ := List.mem_iff_getElem.1 hx
          exact hrel.out j hj (by omega)⟩)
        clear hrel
        go_wp2
        go_ret
        exact ⟨by rw [R.out]; rfl, rfl⟩
  · have d1 : decide (60 < (l.length : Int)) = true := decide_eq_true (by omega)
    have R : Hid (decide (FewE l) = false) := Lib.hid (decide_eq_false fun hf => hl hf.1)
    go_enter Tryd.func9, Tryd.ntmps9
    go_wp2
    go_ret
    exact ⟨by rw [R.out]; rfl, rfl⟩
end Go.Proofs.YtkhgaolaaiekjaaDoor
