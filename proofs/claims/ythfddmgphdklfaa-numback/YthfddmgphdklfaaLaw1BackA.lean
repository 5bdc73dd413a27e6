/-
  NumBack: what its first loop gathers.
-/
import Derived.Test.YthfddmgphdklfaaLaw1Items
import Derived.Test.YthfddmgphdklfaaRefPut
import Derived.Test.YthfddmgphdklfaaLaw1Wide
namespace Go.Proofs.Ythfddmgphdklfaa
open Go.RowKit

/-- The bytes of an item; of items one behind the other. -/
def itemB (x : It) : List UInt8 := if x.is then x.bs else putI x.n x.v
def itemsB (xs : List It) : List UInt8 := xs.flatMap itemB
theorem itemsB_succ (xs : List It) (j : Nat) (h : j < xs.length) : itemsB (xs.take (j + 1)) = itemsB (xs.take j) ++ itemB xs[j] := by
  unfold itemsB
  rw [List.take_succ_eq_append_getElem h, List.flatMap_append]
  simp
theorem itemB_le (x : It) (h : x.bs.length ≤ 300) : (itemB x).length ≤ 300 := by
  unfold itemB
  split
  · exact h
  · have := putI_length x.n x.v; omega
theorem itemsB_le (xs : List It) : (∀ x ∈ xs, x.bs.length ≤ 300) → (itemsB xs).length ≤ xs.length * 300 := by
  induction xs with
  | nil => intro _; simp [itemsB]
  | cons x xs ih =>
    intro h
    have h1 := ih (fun y hy => h y (List.mem_cons_of_mem _ hy))
    have h2 := itemB_le x (h x List.mem_cons_self)
    have e : itemsB (x :: xs) = itemB x ++ itemsB xs := by simp [itemsB]
    rw [e, List.length_append, List.length_cons]
    omega

/-- The Out holds L', the other list holds L; they lie apart. -/
structure Mid (w : World) (B g : Nat) (vo v : Value) (L L' : List UInt8) (wr : World) : Prop where
  out : OutAt wr B g vo L'
  own : wr.ownsRow B 5 1 v L.length (b8s L)
  dis : ∀ i, v.ownBlock = some i → ¬ Foot g vo i
  bel : Below w.heap.size w wr
  low : w.heap.size ≤ B

section
variable {w wr w1 w2 : World} {B g : Nat} {vo v v' : Value} {L L' : List UInt8}
theorem Mid.below (h : Mid w B g vo v L L' wr) (k : Below wr.heap.size wr w1) : Mid w B g vo v L L' w1 :=
  ⟨h.out.only (Only.of_below k) (fun i hi => by have := h.out.foot_lt hi; omega), owns_only h.own (Only.of_below k) (fun i hi => by have := h.own.lt i hi; omega), h.dis, h.bel.trans (k.mono h.bel.size), h.low⟩
theorem Mid.alloc (h : Mid w B g vo v L L' wr) (o : Obj) : Mid w B g vo v L L' (wr.alloc o) := h.below ((Below.refl _ _).alloc (Nat.le_refl _) o)
/-- A call that adds to the Out. -/
theorem Mid.step {L2 : List UInt8} {e : Ending} (h : Mid w B g vo v L L' wr) (k : OutStep wr B g vo L2 e w1) : ∃ vo', e = .returned (.tuple #[]) ∧ Mid w B g vo' v L L2 w1 ∧ Only (Foot g vo) wr w1 := by
  obtain ⟨vo', he, k1, k2, k3⟩ := k
  refine ⟨vo', he, ⟨k1, owns_only h.own k2 h.dis, ?_, ?_, h.low⟩, k2⟩
  · intro i hi hf
    rcases hf with hf | hf
    · exact h.dis i hi (.inl hf)
    · rcases k3 i hf with h1 | h1
      · exact h.dis i hi (.inr h1)
      · have := h.own.lt i hi; omega
  · have hs := h.bel.size
    exact h.bel.trans (k2.below hs (fun i hi hf => by have := h.out.foot_lt hf; have := h.low; omega))
/-- An append onto the other list. -/
theorem Mid.app {L2 : List UInt8} (h : Mid w B g vo v L L' wr) (a : w1.ownsRow B 5 1 v' L2.length (b8s L2)) (b : wr.grownBy w1 v.ownBlock) (c : v'.ownBlock = v.ownBlock ∨ v'.ownBlock = some wr.heap.size) :
    Mid w B g vo v' L2 L' w1 := by
  have hf : ∀ i, Foot g vo i → ¬ some i = v.ownBlock := fun i hi h' => h.dis i h'.symm hi
  refine ⟨h.out.only (Only.of_grown b) hf, a, ?_, h.bel.grown b h.bel.size (fun i hi => by have := h.own.lt i hi; have := h.low; omega), h.low⟩
  intro i hi hft
  rcases c with c | c
  · exact h.dis i (c ▸ hi) hft
  · rw [c] at hi
    injection hi with hi
    have := h.out.foot_lt hft
    omega
end

theorem itemsB_drop (xs : List It) (j : Nat) (h : j < xs.length) : itemsB (xs.drop j) = itemB xs[j] ++ itemsB (xs.drop (j + 1)) := by
  unfold itemsB
  rw [List.drop_eq_getElem_cons h, List.flatMap_cons]

theorem raw_item (bs rest : List UInt8) : rawSt (bs.length : Int) (bs ++ rest) 0 = (bs, rest, 0) := by
  rw [rawSt, if_neg (by simp), if_neg (by omega), if_neg (by rw [List.length_append]; omega)]
  simp
theorem take_item (n v : Nat) (rest : List UInt8) (h1 : 1 ≤ n) (h8 : n ≤ 8) : takeSt (n : Int) (putB n v ++ rest) 0 = (v % 256 ^ n, rest, 0) := by
  have hl := putB_length n v
  rw [takeSt, if_neg (by simp), if_neg (by omega), if_neg (by rw [List.length_append, hl]; omega), ← le_putB]
  simp only [Int.toNat_natCast]
  rw [List.take_left' hl, List.drop_left' hl]

/-- Behind the taking of an item: its copy, its bytes, what was there. -/
theorem back_two {w wq W w3 : World} {H gd xb : Nat} {x : It} {p : Addr} {b : Bool} (b3 : Only (fun i => i = gd) W w3) (hx : Has W xb 30 #[.bool b, .int .i64 x.n, .int .u64 x.v, .slice x.A x.bs.length x.c])
    (hg : H ≤ gd) (hxg : gd < xb) (hT : ItemAt wq H p x) (hK : Below H w wq) (hW : Below H wq W) :
    w3.cell? ⟨xb, 3, none⟩ = some (.slice x.A x.bs.length x.c) ∧ SlIs w3 0 H (.slice x.A x.bs.length x.c) x.bs ∧ Below H w w3 := by
  have h1 := hx.only b3 (by omega)
  have hl := hx.lt
  have h2 : Below H wq w3 := hW.trans (b3.below (by omega) (fun i hi h => by omega))
  exact ⟨by simpa using h1.cell 3, ⟨x.A, x.c, rfl, hT.l1, hT.l2, hT.rd.keep fun _ _ hq => h2.cell hq⟩, hK.trans h2⟩

/-- The mask of the lowest n bytes, as the machine reckons it. -/
theorem mask_of (x n : Nat) (hx : x < 18446744073709551616) (h : n < 8) : ∃ M M1 : Int, IntKind.u64.wrap (2 ^ (8 * n)) = M ∧ IntKind.u64.wrap (M - 1) = M1 ∧ bits .and .u64 (x : Int) M1 = ((x % 256 ^ n : Nat) : Int) := by
  have h1 : 256 ^ n ≤ 256 ^ 7 := Nat.pow_le_pow_right (by omega) (by omega)
  have h2 : 0 < 256 ^ n := Nat.pow_pos (by omega)
  have e : ((2 : Int) ^ (8 * n)) = ((256 ^ n : Nat) : Int) := by rw [pow8]; simp
  refine ⟨((256 ^ n : Nat) : Int), ((256 ^ n - 1 : Nat) : Int), ?_, ?_, ?_⟩
  · rw [e, IntWalk.u64_in _ (by omega)]
  · have e2 : ((256 ^ n : Nat) : Int) - 1 = ((256 ^ n - 1 : Nat) : Int) := by omega
    rw [e2, IntWalk.u64_in _ (by omega)]
  · rw [u64_and_nat _ _ hx (by omega), pow8, Nat.and_two_pow_sub_one_eq_mod]

theorem item_src {w w' : World} {H : Nat} {p : Addr} {x : It} (h : ItemAt w H p x) (k : Below H w w') : SlIs w' 0 H (.slice x.A x.bs.length x.c) x.bs :=
  ⟨x.A, x.c, rfl, h.l1, h.l2, h.rd.keep fun _ _ hq => k.cell hq⟩
end Go.Proofs.Ythfddmgphdklfaa
