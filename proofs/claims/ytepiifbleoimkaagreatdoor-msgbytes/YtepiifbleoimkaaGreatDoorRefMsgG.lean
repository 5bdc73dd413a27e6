/-
  The second reading's Encode.
-/
import Derived.Test.YtepiifbleoimkaaGreatDoorRefMsgF
import Derived.Test.YtepiifbleoimkaaGreatDoorMsgR
import Derived.Deep.QuietTactic
import Derived.BigQuiet
namespace Go.Proofs.YtepiifbleoimkaaGreatDoor
open Go.RowKit
set_option maxRecDepth 100000

theorem Tryz.refMsgSize : (Tryz.prog.info? 43).map (·.size) = some 36 := by kernel_rfl
theorem lim_of {f : F} {k : K} (h : f.kind = k) (hk : k ≠ .texts ∧ k ≠ .qids ∧ k ≠ .data) : f.Lim := by
  subst h
  cases f with
  | texts L => exact absurd rfl hk.1
  | qids L => exact absurd rfl hk.2.1
  | data L => exact absurd rfl hk.2.2
  | num n x => trivial
  | text l => trivial
  | qid q => trivial
  | stat s => trivial
theorem named_lim {t : Nat} (ht : isType t) (h1 : t ≠ 110) (h2 : t ≠ 111) (h3 : t ≠ 117) (h4 : t ≠ 118) : ∀ p ∈ named t, p.1 ≠ .texts ∧ p.1 ≠ .qids ∧ p.1 ≠ .data := by
  rcases isType_cases ht with rfl | rfl | rfl | rfl | rfl | rfl | rfl | rfl | rfl | rfl | rfl | rfl | rfl | rfl | rfl | rfl | rfl | rfl | rfl | rfl | rfl | rfl | rfl | rfl | rfl | rfl | rfl <;> first | (exfalso; omega) | decide
theorem named_places' (t : Nat) : ∀ p ∈ named t, p ∈ places := by
  by_cases ht : isType t
  · obtain ⟨l, hl⟩ := Option.isSome_iff_exists.1 (named_some ht)
    have : named t = l := by rw [named, hl]; rfl
    rw [this]
    exact (named_mem hl).1
  · rw [named, namedOf_none ht]
    intro p hp
    cases hp
theorem fErr_num {f : F} {n : Nat} (h : f.kind = .num n) : fErr f = 0 := by
  obtain ⟨x, rfl⟩ := kind_num h
  rfl
theorem mem_fields {m : Nat → F} {l : List (K × Nat)} {f : F} (h : f ∈ fieldsOf m l) : ∃ p ∈ l, m p.2 = f := List.mem_map.1 h

/-- What the walk keeps behind the checks. -/
theorem rtail {w w3 : World} {t tag : Nat} {fs : List F} {bs : List UInt8} {bad : Int} {v3 : Value} (ht : isType t) (hb : bs = (rAll (rAdd (rAdd ([], 0) (.num 1 t)) (.num 2 tag)) fs).1) (hd : bad = (rAll (rAdd (rAdd ([], 0) (.num 1 t)) (.num 2 tag)) fs).2) (hl : ∀ f ∈ fs, f.Lim)
    (ho : w3.ownsRow w.heap.size 5 1 v3 bs.length (b8s bs)) (k : Below w.heap.size w w3) :
    (bad = 0 → Enc5Step w t tag fs (.returned (.tuple #[v3, .int .i64 0])) w3) ∧ (bad ≠ 0 → Enc5Step w t tag fs (.returned (.tuple #[.slice none 0 0, .int .i64 bad])) w3) := by
  have e0 : (rAdd (rAdd ([], 0) (.num 1 t)) (.num 2 tag)).2 = 0 := by simp [rAdd, rE, nextBad_zero]
  have e1 : bad = fErrL fs := by rw [hd, rAll_bad fs _ hl, e0]; exact if_pos rfl
  have e2 : encErr t fs = fErrL fs := if_pos ht
  refine ⟨fun h => .inl ⟨by rw [e2, ← e1]; exact h, v3, rfl, ?_, k⟩, fun h => .inr ⟨by rw [e2, ← e1]; exact h, by rw [e2, ← e1], k⟩⟩
  have e3 : bs = msgB t tag fs := by
    rw [hb, rAll_bytes fs _ (by rw [← e1]; exact h)]
    simp [rAdd, rB, fB, msgB]
  rw [← e3]
  exact ho

theorem enc_drew (n : Nat) {w w3 : World} {t tag : Nat} {fs : List F} {bad : Int} (hb : bad ≠ 0) (h : Enc5Step w t tag fs (.returned (.tuple #[.slice none 0 0, .int .i64 bad])) w3) : Enc5Step w t tag fs (.returned (.tuple #[.slice none 0 0, .int .i64 bad])) (w3.drewN n) := by
  rcases h with ⟨_, v, he, _⟩ | ⟨h1, h2, k⟩
  · simp at he
    exact absurd he.2 hb
  · exact .inr ⟨h1, h2, k.trans ((below_drewN w3 n).mono k.size)⟩

end Go.Proofs.YtepiifbleoimkaaGreatDoor
