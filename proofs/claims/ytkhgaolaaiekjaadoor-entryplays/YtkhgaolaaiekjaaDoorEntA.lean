/-
  Package entry, pure: entries, which may be, their bytes; rows that rise; what is put, cut, found. Nothing of the program is used here.
-/
import Derived.Test.YtkhgaolaaiekjaaDoorMem
namespace Go.Proofs.YtkhgaolaaiekjaaDoor
open Go.RowKit
set_option maxRecDepth 100000

/-- An entry: its name's bytes, its inode. -/
structure En where
  n : List UInt8
  i : Nat
deriving DecidableEq

/-! ### the order of names -/
/-- a is ahead of b. -/
def Ahd (a b : List UInt8) : Prop := Op.bytesLess a b = true
instance (a b : List UInt8) : Decidable (Ahd a b) := by unfold Ahd; infer_instance
theorem ahd_irrefl : ∀ a : List UInt8, ¬ Ahd a a
  | [] => by simp [Ahd, Op.bytesLess]
  | c :: l => by
    have := ahd_irrefl l
    simpa [Ahd, Op.bytesLess] using this
theorem ahd_trans : ∀ {a b c : List UInt8}, Ahd a b → Ahd b c → Ahd a c
  | _, _, [], _, h => by simp [Ahd, Op.bytesLess] at h
  | _, [], _ :: _, h, _ => by simp [Ahd, Op.bytesLess] at h
  | [], _ :: _, _ :: _, _, _ => by simp [Ahd, Op.bytesLess]
  | x :: a, y :: b, z :: c, h1, h2 => by
    simp only [Ahd, Op.bytesLess, Bool.or_eq_true, Bool.and_eq_true, decide_eq_true_eq, beq_iff_eq, UInt8.lt_iff_toNat_lt] at h1 h2 ⊢
    rcases h1 with h1 | ⟨rfl, h1⟩
    · rcases h2 with h2 | ⟨rfl, h2⟩
      · exact .inl (by omega)
      · exact .inl h1
    · rcases h2 with h2 | ⟨rfl, h2⟩
      · exact .inl h2
      · exact .inr ⟨rfl, ahd_trans h1 h2⟩
theorem ahd_total : ∀ {a b : List UInt8}, ¬ Ahd a b → ¬ Ahd b a → a = b
  | [], [], _, _ => rfl
  | [], _ :: _, h, _ => by simp [Ahd, Op.bytesLess] at h
  | _ :: _, [], _, h => by simp [Ahd, Op.bytesLess] at h
  | x :: a, y :: b, h1, h2 => by
    simp only [Ahd, Op.bytesLess, Bool.or_eq_true, Bool.and_eq_true, decide_eq_true_eq, beq_iff_eq, UInt8.lt_iff_toNat_lt, not_or, not_and] at h1 h2
    have e : x = y := UInt8.toNat_inj.1 (by omega)
    subst e
    rw [ahd_total (a := a) (b := b) (h1.2 rfl) (h2.2 rfl)]
theorem ahd_asymm {a b : List UInt8} (h : Ahd a b) : ¬ Ahd b a := fun k => ahd_irrefl a (ahd_trans h k)
theorem ahd_ne {a b : List UInt8} (h : Ahd a b) : a ≠ b := fun e => ahd_irrefl b (e ▸ h)

/-! ### rows that rise -/
def Rise (l : List En) : Prop := l.Pairwise (fun x y => Ahd x.n y.n)
theorem Rise.tail {x : En} {l : List En} (h : Rise (x :: l)) : Rise l := (List.pairwise_cons.1 h).2
theorem Rise.head {x : En} {l : List En} (h : Rise (x :: l)) : ∀ y ∈ l, Ahd x.n y.n := (List.pairwise_cons.1 h).1
theorem rise_nil : Rise [] := List.Pairwise.nil
theorem rise_cons {x : En} {l : List En} (h : ∀ y ∈ l, Ahd x.n y.n) (k : Rise l) : Rise (x :: l) := List.pairwise_cons.2 ⟨h, k⟩
/-- One name, one entry. -/
theorem Rise.one {l : List En} (h : Rise l) : ∀ {x y : En}, x ∈ l → y ∈ l → x.n = y.n → x = y := by
  induction l with
  | nil => intro x y hx; cases hx
  | cons a l ih =>
    intro x y hx hy e
    rcases List.mem_cons.1 hx with e1 | hx1
    · rcases List.mem_cons.1 hy with e2 | hy1
      · rw [e1, e2]
      · exact absurd e (by rw [e1]; exact ahd_ne (h.head y hy1))
    · rcases List.mem_cons.1 hy with e2 | hy1
      · exact absurd e.symm (by rw [e2]; exact ahd_ne (h.head x hx1))
      · exact ih h.tail hx1 hy1 e
/-- Two rows that rise and hold the same are one. -/
theorem rise_ext : ∀ {l m : List En}, Rise l → Rise m → (∀ x, x ∈ l ↔ x ∈ m) → l = m
  | [], [], _, _, _ => rfl
  | [], y :: m, _, _, h => by
    have := (h y).2 (by simp)
    cases this
  | x :: l, [], _, _, h => by
    have := (h x).1 (by simp)
    cases this
  | x :: l, y :: m, hl, hm, h => by
    have e : x = y := by
      rcases List.mem_cons.1 ((h x).1 (by simp)) with e | hx
      · exact e
      · rcases List.mem_cons.1 ((h y).2 (by simp)) with e | hy
        · exact e.symm
        · exact absurd (hl.head y hy) (ahd_asymm (hm.head x hx))
    subst e
    have : l = m := rise_ext hl.tail hm.tail (fun z => by
      constructor
      · intro hz
        rcases List.mem_cons.1 ((h z).1 (by simp [hz])) with rfl | k
        · exact absurd (hl.head z hz) (ahd_irrefl _)
        · exact k
      · intro hz
        rcases List.mem_cons.1 ((h z).2 (by simp [hz])) with rfl | k
        · exact absurd (hm.head z hz) (ahd_irrefl _)
        · exact k)
    rw [this]

/-! ### what is put, cut, found -/
/-- How many stand ahead of a name. -/
def posE (n : List UInt8) : List En → Nat
  | [] => 0
  | y :: l => if Ahd y.n n then posE n l + 1 else 0
theorem posE_le (n : List UInt8) : ∀ l : List En, posE n l ≤ l.length
  | [] => Nat.le_refl _
  | y :: l => by
    have := posE_le n l
    simp only [posE, List.length_cons]
    split <;> omega
/-- Is the name there? -/
def thereE (l : List En) (n : List UInt8) : Prop := ∃ y ∈ l, y.n = n
def putE (l : List En) (x : En) : List En := l.take (posE x.n l) ++ x :: l.drop (posE x.n l)
def cutE (l : List En) (n : List UInt8) : List En := l.take (posE n l) ++ l.drop (posE n l + 1)
theorem posE_ahead (n : List UInt8) : ∀ (l : List En), ∀ y ∈ l.take (posE n l), Ahd y.n n
  | [], y, h => by simp at h
  | a :: l, y, h => by
    by_cases k : Ahd a.n n
    · simp only [posE, if_pos k, List.take_succ_cons] at h
      rcases List.mem_cons.1 h with rfl | h
      · exact k
      · exact posE_ahead n l y h
    · simp [posE, if_neg k] at h
theorem posE_at (n : List UInt8) : ∀ (l : List En) (y : En), l[posE n l]? = some y → ¬ Ahd y.n n
  | [], y, h => by simp at h
  | a :: l, y, h => by
    by_cases k : Ahd a.n n
    · simp only [posE, if_pos k, List.getElem?_cons_succ] at h
      exact posE_at n l y h
    · simp only [posE, if_neg k, List.getElem?_cons_zero] at h
      injection h with h
      subst h
      exact k
/-- Behind the place of a name nothing is ahead of it. -/
theorem Rise.behind {n : List UInt8} : ∀ {l : List En}, Rise l → ∀ y ∈ l.drop (posE n l), ¬ Ahd y.n n
  | [], _, y, h => by simp at h
  | a :: l, hl, y, h => by
    by_cases k : Ahd a.n n
    · simp only [posE, if_pos k, List.drop_succ_cons] at h
      exact Rise.behind hl.tail y h
    · simp only [posE, if_neg k, List.drop_zero] at h
      rcases List.mem_cons.1 h with rfl | h
      · exact k
      · exact fun h2 => k (ahd_trans (hl.head y h) h2)
theorem Rise.there {n : List UInt8} {l : List En} (h : Rise l) : thereE l n ↔ ∃ y, l[posE n l]? = some y ∧ y.n = n := by
  constructor
  · rintro ⟨y, hy, e⟩
    induction l with
    | nil => cases hy
    | cons a l ih =>
      by_cases k : Ahd a.n n
      · simp only [posE, if_pos k, List.getElem?_cons_succ]
        rcases List.mem_cons.1 hy with rfl | hy
        · exact absurd k (by rw [e]; exact ahd_irrefl _)
        · exact ih h.tail hy
      · simp only [posE, if_neg k, List.getElem?_cons_zero]
        rcases List.mem_cons.1 hy with rfl | hy
        · exact ⟨_, rfl, e⟩
        · exact absurd (e ▸ h.head y hy) k
  · rintro ⟨y, hy, e⟩
    exact ⟨y, List.mem_of_getElem? hy, e⟩
theorem mem_put {l : List En} {x y : En} : y ∈ putE l x ↔ y = x ∨ y ∈ l := by
  unfold putE
  have : y ∈ l ↔ y ∈ l.take (posE x.n l) ∨ y ∈ l.drop (posE x.n l) := by
    rw [← List.mem_append, List.take_append_drop]
  rw [List.mem_append, List.mem_cons, this]
  constructor
  · rintro (h | h | h)
    · exact .inr (.inl h)
    · exact .inl h
    · exact .inr (.inr h)
  · rintro (h | h | h)
    · exact .inr (.inl h)
    · exact .inl h
    · exact .inr (.inr h)
theorem rise_put {l : List En} {x : En} (h : Rise l) (hn : ¬ thereE l x.n) : Rise (putE l x) := by
  unfold putE
  have h0 : Rise (l.take (posE x.n l) ++ l.drop (posE x.n l)) := by rwa [List.take_append_drop]
  obtain ⟨h1, h2, h3⟩ := List.pairwise_append.1 h0
  have hd : ∀ y ∈ l.drop (posE x.n l), Ahd x.n y.n := by
    intro y hy
    by_cases k : Ahd x.n y.n
    · exact k
    · exact absurd ⟨y, List.mem_of_mem_drop hy, ahd_total (h.behind y hy) k⟩ hn
  refine List.pairwise_append.2 ⟨h1, List.pairwise_cons.2 ⟨hd, h2⟩, ?_⟩
  intro a ha b hb
  rcases List.mem_cons.1 hb with rfl | hb
  · exact posE_ahead _ _ a ha
  · exact h3 a ha b hb
theorem rise_cut {l : List En} {n : List UInt8} (h : Rise l) : Rise (cutE l n) := by
  unfold cutE
  have h0 : Rise (l.take (posE n l) ++ l.drop (posE n l)) := by rwa [List.take_append_drop]
  obtain ⟨h1, h2, h3⟩ := List.pairwise_append.1 h0
  have e : l.drop (posE n l + 1) = (l.drop (posE n l)).drop 1 := by rw [List.drop_drop]
  rw [e]
  refine List.pairwise_append.2 ⟨h1, h2.sublist (List.drop_sublist _ _), ?_⟩
  intro a ha b hb
  exact h3 a ha b (List.mem_of_mem_drop hb)
end Go.Proofs.YtkhgaolaaiekjaaDoor
