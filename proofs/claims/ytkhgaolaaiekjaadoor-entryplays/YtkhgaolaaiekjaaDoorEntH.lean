/-
  Package entry, pure: names put one behind the other, in whatever order.
-/
import Derived.Test.YtkhgaolaaiekjaaDoorEntG
namespace Go.Proofs.YtkhgaolaaiekjaaDoor
open Go.RowKit Go.Lib
set_option maxRecDepth 100000

/-- A name is put with the inode 7, if it may be. -/
def addN (l : List En) (n : List UInt8) : List En := if putEr l ⟨n, 7⟩ = 0 then putE l ⟨n, 7⟩ else l
def foldN (ns : List (List UInt8)) : List En := ns.foldl addN []
/-- All inodes are 7. -/
def Sev (l : List En) : Prop := ∀ x ∈ l, x.i = 7
theorem putE_length (l : List En) (x : En) : (putE l x).length = l.length + 1 := by
  unfold putE
  have := posE_le x.n l
  rw [List.length_append, List.length_cons, List.length_take, List.length_drop]
  omega
theorem addN_len (l : List En) (n : List UInt8) : (addN l n).length ≤ l.length + 1 := by
  unfold addN
  split
  · rw [putE_length]
    exact Nat.le_refl _
  · omega
theorem addN_good {l : List En} (n : List UInt8) (h : Good l) : Good (addN l n) := by
  unfold addN
  split
  · exact good_put h (by assumption)
  · exact h
theorem addN_sev {l : List En} (n : List UInt8) (h : Sev l) : Sev (addN l n) := by
  unfold addN
  split
  · intro x hx
    rcases mem_put.1 hx with rfl | hx
    · rfl
    · exact h x hx
  · exact h
theorem mem_addN {l : List En} (n : List UInt8) (h : Sev l) (x : En) : x ∈ addN l n ↔ x ∈ l ∨ (nameOf n = 0 ∧ x = ⟨n, 7⟩) := by
  unfold addN
  split
  · rename_i k
    rw [mem_put]
    constructor
    · rintro (h1 | h1)
      · exact .inr ⟨(putEr_zero.1 k).1, h1⟩
      · exact .inl h1
    · rintro (h1 | h1)
      · exact .inr h1
      · exact .inl h1.2
  · rename_i k
    constructor
    · intro h1
      exact .inl h1
    · rintro (h1 | ⟨h1, rfl⟩)
      · exact h1
      · by_cases ht : thereE l n
        · obtain ⟨y, hy, e⟩ := ht
          have e2 := h y hy
          obtain ⟨a, b⟩ := y
          simp only at e e2
          rw [← e, ← e2]
          exact hy
        · exact absurd (putEr_zero.2 ⟨h1, by simp, ht⟩) k
theorem foldl_facts (ns : List (List UInt8)) : ∀ (l : List En), Good l → Sev l → Good (ns.foldl addN l) ∧ Sev (ns.foldl addN l) ∧ (ns.foldl addN l).length ≤ l.length + ns.length ∧
    ∀ x, x ∈ ns.foldl addN l ↔ x ∈ l ∨ (x.i = 7 ∧ nameOf x.n = 0 ∧ x.n ∈ ns) := by
  induction ns with
  | nil =>
    intro l hg hs
    exact ⟨hg, hs, Nat.le_refl _, fun x => by simp⟩
  | cons n ns ih =>
    intro l hg hs
    obtain ⟨h1, h2, h3, h4⟩ := ih (addN l n) (addN_good n hg) (addN_sev n hs)
    refine ⟨h1, h2, ?_, fun x => ?_⟩
    · have := addN_len l n
      simp only [List.foldl_cons, List.length_cons]
      omega
    · rw [List.foldl_cons, h4 x, mem_addN n hs x]
      constructor
      · rintro ((h | ⟨h, rfl⟩) | ⟨h5, h6, h7⟩)
        · exact .inl h
        · exact .inr ⟨rfl, h, by simp⟩
        · exact .inr ⟨h5, h6, by simp [h7]⟩
      · rintro (h | ⟨h5, h6, h7⟩)
        · exact .inl (.inl h)
        · rcases List.mem_cons.1 h7 with h7 | h7
          · refine .inl (.inr ⟨h7 ▸ h6, ?_⟩)
            obtain ⟨a, b⟩ := x
            simp only at h5 h7
            rw [h5, h7]
          · exact .inr ⟨h5, h6, h7⟩
theorem sev_nil : Sev [] := fun x hx => by
  cases hx
theorem foldN_good (ns : List (List UInt8)) : Good (foldN ns) := (foldl_facts ns [] good_nil sev_nil).1
theorem foldN_sev (ns : List (List UInt8)) : Sev (foldN ns) := (foldl_facts ns [] good_nil sev_nil).2.1
theorem foldN_len (ns : List (List UInt8)) : (foldN ns).length ≤ ns.length := by
  have := (foldl_facts ns [] good_nil sev_nil).2.2.1
  simpa [foldN] using this
theorem foldN_u32 (ns : List (List UInt8)) : U32s (foldN ns) := fun x hx => by
  rw [foldN_sev ns x hx]
  decide
theorem foldN_take (ns : List (List UInt8)) (k : Nat) (h : k < ns.length) : foldN (ns.take (k + 1)) = addN (foldN (ns.take k)) ns[k] := by
  unfold foldN
  rw [List.take_succ_eq_append_getElem h, List.foldl_append]
  rfl
/-- Whatever the order: the same names make the same row. -/
theorem foldN_ext {ns ms : List (List UInt8)} (h : ∀ n, n ∈ ns ↔ n ∈ ms) : foldN ns = foldN ms := by
  refine rise_ext (foldN_good ns).2 (foldN_good ms).2 (fun x => ?_)
  have h1 := (foldl_facts ns [] good_nil sev_nil).2.2.2 x
  have h2 := (foldl_facts ms [] good_nil sev_nil).2.2.2 x
  unfold foldN
  rw [h1, h2, h x.n]
/-- The names from place t on, round and round. -/
def rotN (ns : List (List UInt8)) (t : Nat) : List (List UInt8) := (List.range ns.length).map fun i => ns.getD ((i + t) % ns.length) []
theorem rotN_length (ns : List (List UInt8)) (t : Nat) : (rotN ns t).length = ns.length := by simp [rotN]
theorem rotN_get (ns : List (List UInt8)) (t k : Nat) (h2 : (k + t) % ns.length < ns.length) (h3 : k < (rotN ns t).length) : (rotN ns t)[k] = ns[(k + t) % ns.length] := by
  simp [rotN, h2]
theorem rotN_mem (ns : List (List UInt8)) (t : Nat) (n : List UInt8) : n ∈ rotN ns t ↔ n ∈ ns := by
  unfold rotN
  rw [List.mem_map]
  constructor
  · rintro ⟨i, hi, rfl⟩
    rw [List.mem_range] at hi
    have h2 : (i + t) % ns.length < ns.length := Nat.mod_lt _ (by omega)
    rw [List.getD_eq_getElem?_getD, List.getElem?_eq_getElem h2]
    exact List.getElem_mem h2
  · intro hn
    obtain ⟨j, hj, rfl⟩ := List.mem_iff_getElem.1 hn
    have hp : 0 < ns.length := by omega
    refine ⟨(j + (ns.length - t % ns.length)) % ns.length, List.mem_range.2 (Nat.mod_lt _ hp), ?_⟩
    have e : ((j + (ns.length - t % ns.length)) % ns.length + t) % ns.length = j := by
      rw [Nat.mod_add_mod]
      have h1 := Nat.mod_add_div t ns.length
      have h2 := Nat.mod_lt t hp
      have h3 : j + (ns.length - t % ns.length) + t = j + ns.length * (t / ns.length + 1) := by
        rw [Nat.mul_add]
        omega
      rw [h3, Nat.add_mul_mod_self_left, Nat.mod_eq_of_lt hj]
    rw [e, List.getD_eq_getElem?_getD, List.getElem?_eq_getElem hj]
    rfl
end Go.Proofs.YtkhgaolaaiekjaaDoor
