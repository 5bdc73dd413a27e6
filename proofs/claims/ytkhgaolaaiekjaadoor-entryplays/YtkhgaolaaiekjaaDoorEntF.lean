/-
  Package entry, pure: entries' bytes tell the entries; what each call of the package is to answer.
-/
import Derived.Test.YtkhgaolaaiekjaaDoorEntE
namespace Go.Proofs.YtkhgaolaaiekjaaDoor
open Go.RowKit Go.Lib
set_option maxRecDepth 100000

theorem name_ok {l : List UInt8} (h : nameOf l = 0) : l.length ≤ 28 ∧ (0 : UInt8) ∉ l ∧ l ≠ [] := by
  unfold nameOf at h
  split at h
  · cases h
  · rename_i h1
    split at h
    · cases h
    · rename_i h2
      refine ⟨by omega, ?_, fun e => h1 (.inr (.inl e))⟩
      intro h0
      refine h1 (.inl ?_)
      unfold wrongOf
      by_cases k : 64 < l.length
      · rw [if_pos k]
        decide
      · rw [if_neg k, if_pos h0]
        decide
/-- Entries whose inodes are of four bytes. -/
def U32s (l : List En) : Prop := ∀ x ∈ l, x.i < 4294967296
theorem encE_len {x : En} (h : nameOf x.n = 0) : (encE x).length = 32 := by
  have := (name_ok h).1
  rw [encE_length]
  omega
theorem encL_len32 : ∀ {l : List En}, (∀ x ∈ l, nameOf x.n = 0) → (encL l).length = l.length * 32
  | [], _ => rfl
  | x :: l, h => by
    have h1 := encE_len (h x (by simp))
    have h2 := encL_len32 (l := l) (fun y hy => h y (by simp [hy]))
    have e : encL (x :: l) = encE x ++ encL l := by simp [encL]
    rw [e, List.length_append, h1, h2, List.length_cons]
    omega
theorem strip_zero : ∀ {a b : List UInt8} {m n : Nat}, (0 : UInt8) ∉ a → (0 : UInt8) ∉ b → a ++ List.replicate m 0 = b ++ List.replicate n 0 → a = b
  | [], [], _, _, _, _, _ => rfl
  | [], c :: b, 0, _, _, _, h => by simp at h
  | [], c :: b, m + 1, n, _, hb, h => by
    rw [List.replicate_succ] at h
    simp only [List.nil_append, List.cons_append, List.cons.injEq] at h
    exact absurd (by simp [h.1]) hb
  | c :: a, [], m, 0, _, _, h => by simp at h
  | c :: a, [], m, n + 1, ha, _, h => by
    rw [List.replicate_succ] at h
    simp only [List.nil_append, List.cons_append, List.cons.injEq] at h
    exact absurd (by simp [h.1]) ha
  | c :: a, d :: b, m, n, ha, hb, h => by
    simp only [List.cons_append, List.cons.injEq] at h
    rw [h.1, strip_zero (fun k => ha (by simp [k])) (fun k => hb (by simp [k])) h.2]
theorem encE_inj {x y : En} (hx : nameOf x.n = 0) (hy : nameOf y.n = 0) (ix : x.i < 4294967296) (iy : y.i < 4294967296) (h : encE x = encE y) : x = y := by
  unfold encE at h
  rw [List.append_assoc, List.append_assoc] at h
  obtain ⟨h1, h2⟩ := List.append_inj h (by rw [putB_length, putB_length])
  have e1 := congrArg le h1
  rw [le_putB, le_putB, Nat.mod_eq_of_lt (by omega), Nat.mod_eq_of_lt (by omega)] at e1
  have e2 := strip_zero (name_ok hx).2.1 (name_ok hy).2.1 h2
  obtain ⟨a, b⟩ := x
  obtain ⟨c, d⟩ := y
  simp only at e1 e2
  rw [e1, e2]
theorem encL_inj : ∀ {l m : List En}, (∀ x ∈ l, nameOf x.n = 0) → (∀ x ∈ m, nameOf x.n = 0) → U32s l → U32s m → encL l = encL m → l = m
  | [], [], _, _, _, _, _ => rfl
  | [], y :: m, hl, hm, _, _, h => by
    have h1 := encL_len32 hl
    have h2 := encL_len32 hm
    rw [h, h2, List.length_cons, List.length_nil] at h1
    omega
  | x :: l, [], hl, hm, _, _, h => by
    have h1 := encL_len32 hl
    have h2 := encL_len32 hm
    rw [h, h2, List.length_cons, List.length_nil] at h1
    omega
  | x :: l, y :: m, hl, hm, ul, um, h => by
    have e1 : encL (x :: l) = encE x ++ encL l := by simp [encL]
    have e2 : encL (y :: m) = encE y ++ encL m := by simp [encL]
    rw [e1, e2] at h
    obtain ⟨h1, h2⟩ := List.append_inj h (by rw [encE_len (hl x (by simp)), encE_len (hm y (by simp))])
    rw [encE_inj (hl x (by simp)) (hm y (by simp)) (ul x (by simp)) (um y (by simp)) h1,
      encL_inj (fun z hz => hl z (by simp [hz])) (fun z hz => hm z (by simp [hz])) (fun z hz => ul z (by simp [hz])) (fun z hz => um z (by simp [hz])) h2]
/-- What bytes tell: entries, or that they are none's. -/
def DecIs (bs : List UInt8) (m : List En) (er : Int) : Prop :=
  (er = 0 ∧ Good m ∧ U32s m ∧ encL m = bs) ∨ (er = 2 ∧ m = [] ∧ ¬ ∃ m, Good m ∧ U32s m ∧ encL m = bs)
theorem DecIs.own {l m : List En} {er : Int} (h : DecIs (encL l) m er) (hg : Good l) (hu : U32s l) : er = 0 ∧ m = l := by
  rcases h with ⟨h1, h2, h3, h4⟩ | ⟨_, _, h3⟩
  · exact ⟨h1, encL_inj (fun x hx => (h2.1 x hx).1) (fun x hx => (hg.1 x hx).1) h3 hu h4⟩
  · exact absurd ⟨l, hg, hu, rfl⟩ h3
/-- What Put, Cut, Find answer. -/
def putEr (l : List En) (x : En) : Int := if bad1 x ≠ 0 then bad1 x else if ∃ y ∈ l, y.n = x.n then 7 else 0
def putL (l : List En) (x : En) : List En := if putEr l x = 0 then putE l x else []
def cutEr (l : List En) (n : List UInt8) : Int := if ∃ y ∈ l, y.n = n then 0 else 6
def cutL (l : List En) (n : List UInt8) : List En := if ∃ y ∈ l, y.n = n then cutE l n else []
def findI (l : List En) (n : List UInt8) : Nat := if ∃ y ∈ l, y.n = n then (l[posE n l]?.map (·.i)).getD 0 else 0
theorem putEr_zero {l : List En} {x : En} : putEr l x = 0 ↔ nameOf x.n = 0 ∧ x.i ≠ 0 ∧ ¬ thereE l x.n := by
  unfold putEr thereE
  by_cases hb : bad1 x = 0
  · rw [if_neg (by simp [hb])]
    have h := bad1_zero.1 hb
    split
    · rename_i k
      simp [k]
    · rename_i k
      simp only [true_iff]
      exact ⟨h.1, h.2, k⟩
  · rw [if_pos hb]
    constructor
    · intro h
      exact absurd h hb
    · rintro ⟨h1, h2, _⟩
      exact absurd (bad1_zero.2 ⟨h1, h2⟩) hb
theorem good_put {l : List En} {x : En} (h : Good l) (k : putEr l x = 0) : Good (putE l x) := by
  obtain ⟨k1, k2, k3⟩ := putEr_zero.1 k
  refine ⟨fun y hy => ?_, rise_put h.2 k3⟩
  rcases mem_put.1 hy with rfl | hy
  · exact ⟨k1, k2⟩
  · exact h.1 y hy
theorem mem_cut {l : List En} {n : List UInt8} {y : En} (h : y ∈ cutE l n) : y ∈ l := by
  unfold cutE at h
  rcases List.mem_append.1 h with h | h
  · exact List.mem_of_mem_take h
  · exact List.mem_of_mem_drop h
theorem good_cut {l : List En} {n : List UInt8} (h : Good l) : Good (cutE l n) := ⟨fun y hy => h.1 y (mem_cut hy), rise_cut h.2⟩
theorem good_nil : Good [] := by
  refine ⟨fun x hx => ?_, rise_nil⟩
  cases hx
end Go.Proofs.YtkhgaolaaiekjaaDoor
