/-
  Plain facts on memory and bytes that the proofs of this seat share; nothing of the program is used here.
  The small functions of package num: what each call answers and what it does to memory.
  Package fault: Must, and Caught over whatever function it is handed: what each call answers and what it does to memory.
  Package num: Bytes, Of, Left, Err, Raw of an Out: what each call answers and what it does to memory.
  Package num: what adds to an Out: Raw, Put.
  Package num: what takes from an In: next, and the two functions that are handed to guard.
  Package num: the function that Raw hands to guard.
  Package num: guard, at each of the two functions that are handed to it; Take and Raw of an In.
  Package num: Put at any width; the text that a list of bytes makes.
  Package num: what is put and what is taken again; the Out that a statement makes.
  Package qid: Put, Take, Type, Mode of whatever qid, whatever In: what each call answers and what it does to memory.
  Plain facts on UTF-8 over lists of bytes: the width of the first code point, how many code points there are; nothing of the program is used here.
-/
import Derived.WalkKit
import Derived.Deep.AppendLies
import Derived.Deep.Draws
import Derived.Test.YtepiifbleoimkaaGreatDoorRows
import Derived.WalkSpells
import Derived.WalkLawsBesides
import Derived.Lib.Hide
import Derived.Recover
import Derived.Defers
import Derived.Shelf.Abstract
import Derived.Deep.RegionLaw
import Derived.Laws.IdiomStrings
import Derived.Laws.BytesArg
import Derived.Lib.SlBytesConst
import Derived.Lib.DecodeNEq
import Derived.Shelf.Unicode.DecodeSlow
import Derived.Shelf.GgClosure.StringsIndexFunc
import Derived.Lib.FieldsP
namespace Go.Proofs.YtepiifbleoimkaaGreatDoor
open Go.RowKit

/-- A byte as a value; a list of them. -/
def b8 (c : UInt8) : Value := .int .u8 (c.toNat : Int)
def b8s (l : List UInt8) : List Value := l.map b8
theorem b8s_length (l : List UInt8) : (b8s l).length = l.length := by simp [b8s]
theorem b8s_append (l m : List UInt8) : b8s (l ++ m) = b8s l ++ b8s m := by simp [b8s]
theorem b8s_one (l : List UInt8) : ∀ u ∈ b8s l, u.oneCell' = true := by
  intro u hu
  simp only [b8s, List.mem_map] at hu
  obtain ⟨c, _, rfl⟩ := hu
  rfl
theorem b8s_get {l : List UInt8} {j : Nat} (h : j < l.length) : (b8s l)[j]? = some (b8 l[j]) := by
  simp [b8s, List.getElem?_map, List.getElem?_eq_getElem h]

/-- Block g is whole, not frozen: these cells. -/
def Has (w : World) (g : Nat) (t : TypeId) (cs : Array Value) : Prop := w.heap[g]? = some (.cells cs t (0, 0))

/-- Of the old world only blocks in S may have turned; no block has gone. -/
structure Only (S : Nat → Prop) (a b : World) : Prop where
  os : b.os = a.os
  tape : b.tape = a.tape
  output : b.output = a.output
  size : a.heap.size ≤ b.heap.size
  block : ∀ i, i < a.heap.size → ¬ S i → b.heap[i]? = a.heap[i]?

section
variable {a b c w w' : World} {S T : Nat → Prop} {g : Nat} {t : TypeId} {cs : Array Value}
theorem Only.refl (S : Nat → Prop) (a : World) : Only S a a := ⟨rfl, rfl, rfl, Nat.le_refl _, fun _ _ _ => rfl⟩
theorem Only.mono (h : Only S a b) (hs : ∀ i, i < a.heap.size → S i → T i) : Only T a b :=
  ⟨h.os, h.tape, h.output, h.size, fun i hi hn => h.block i hi fun hS => hn (hs i hi hS)⟩
theorem Only.trans (h : Only S a b) (k : Only T b c) (hs : ∀ i, i < a.heap.size → T i → S i) : Only S a c :=
  ⟨k.os.trans h.os, k.tape.trans h.tape, k.output.trans h.output, Nat.le_trans h.size k.size,
    fun i hi hn => (k.block i (Nat.lt_of_lt_of_le hi h.size) fun hT => hn (hs i hi hT)).trans (h.block i hi hn)⟩
theorem Only.drew (h : Only S a b) : Only S a b.drew := ⟨h.os, h.tape, h.output, h.size, h.block⟩
theorem Only.drewN (h : Only S a b) (n : Nat) : Only S a (b.drewN n) := ⟨h.os, h.tape, h.output, h.size, h.block⟩
theorem Only.alloc (h : Only S a b) (o : Obj) : Only S a (b.alloc o) :=
  ⟨h.os, h.tape, h.output, Nat.le_trans h.size (by simp), fun i hi hn => (Below.heap_alloc b o i (Nat.lt_of_lt_of_le hi h.size)).trans (h.block i hi hn)⟩
theorem Only.setCell (h : Only S a b) {p : Addr} (hp : p.block < a.heap.size → S p.block) (u : Value) : Only S a (b.setCell p u) :=
  ⟨h.os, h.tape, h.output, by simpa [World.setCell] using h.size, fun i hi hn => (Below.heap_setCell b p u i (by
    rintro rfl
    exact hn (hp hi))).trans (h.block i hi hn)⟩
theorem Only.of_grown {row : Option Nat} (h : a.grownBy b row) : Only (fun i => some i = row) a b := ⟨h.os, h.tape, h.output, h.size, h.block⟩
theorem Only.of_below {B : Nat} (h : Below B a b) : Only (fun i => B ≤ i) a b := ⟨h.os, h.tape, h.output, h.size, fun i _ hn => h.block i (Nat.lt_of_not_le hn)⟩
theorem Only.below {B : Nat} (h : Only S a b) (hB : B ≤ a.heap.size) (hs : ∀ i, i < B → ¬ S i) : Below B a b :=
  ⟨h.os, h.tape, h.output, h.size, fun i hi => h.block i (by omega) (hs i hi)⟩
theorem Only.cell (h : Only S a b) {p : Addr} (hp : p.block < a.heap.size) (hn : ¬ S p.block) : b.cell? p = a.cell? p := World.cell?_of_block (h.block _ hp hn)
theorem Only.frozen (h : Only S a b) {p : Addr} (hp : p.block < a.heap.size) (hn : ¬ S p.block) : b.frozen? p = a.frozen? p := World.frozen?_of_block (h.block _ hp hn)

theorem Has.lt (h : Has w g t cs) : g < w.heap.size := by
  unfold Has at h
  exact (Array.getElem?_eq_some_iff.1 h).1
theorem Has.cell (h : Has w g t cs) (i : Nat) : w.cell? ⟨g, i, none⟩ = cs[i]? := cell_of_row w g i cs t (0, 0) h
theorem Has.frozen (h : Has w g t cs) (i : Nat) : w.frozen? ⟨g, i, none⟩ = false := by
  unfold Has at h
  simp [World.frozen?, h]
theorem Has.new (w : World) (t : TypeId) (cs : Array Value) : Has (w.alloc (.cells cs t)) w.heap.size t cs := heap_alloc_new w _
theorem Has.alloc (h : Has w g t cs) (o : Obj) : Has (w.alloc o) g t cs := (Below.heap_alloc w o g h.lt).trans h
theorem Has.drew (h : Has w g t cs) : Has w.drew g t cs := h
theorem Has.set (h : Has w g t cs) (i : Nat) (u : Value) : Has (w.setCell ⟨g, i, none⟩ u) g t (cs.setIfInBounds i u) := by
  unfold Has at h ⊢
  simp [World.setCell, Array.getElem?_modify, h]
theorem Has.far (h : Has w g t cs) {p : Addr} (hp : g ≠ p.block) (u : Value) : Has (w.setCell p u) g t cs := (Below.heap_setCell w p u g hp).trans h
theorem Has.only (h : Has a g t cs) (k : Only S a b) (hn : ¬ S g) : Has b g t cs := (k.block g h.lt hn).trans h
theorem Has.ne {g' : Nat} {t' : TypeId} {cs' : Array Value} (h : Has w g t cs) (h' : Has w g' t' cs') (hne : t ≠ t') : g ≠ g' := by
  rintro rfl
  unfold Has at h h'
  rw [h] at h'
  injection h' with h'
  injection h' with _ ht
  exact hne ht
theorem owns_ne {base : Nat} {e : TypeId} {size n : Nat} {v : Value} {xs : List Value} (h : w.ownsRow base e size v n xs) (hg : Has w g t cs) (hne : e ≠ t) : some g ≠ v.ownBlock := by
  rcases h.2 with ⟨rfl, _⟩ | ⟨g', cap, cur, rfl, _, hh, _⟩
  · simp [Value.ownBlock]
  · intro he
    have : g = g' := by simpa [Value.ownBlock] using he
    subst this
    exact Has.ne (t := e) hh hg hne rfl
theorem owns_only {base : Nat} {e : TypeId} {size n : Nat} {v : Value} {xs : List Value} (h : a.ownsRow base e size v n xs) (k : Only S a b) (hn : ∀ i, v.ownBlock = some i → ¬ S i) : b.ownsRow base e size v n xs := by
  refine ⟨h.1, ?_⟩
  rcases h.2 with hv | ⟨g', cap, cur, rfl, hb, hh, r⟩
  · exact .inl hv
  · exact .inr ⟨g', cap, cur, rfl, hb, (k.block g' (Array.getElem?_eq_some_iff.1 hh).1 (hn _ rfl)).trans hh, r⟩
theorem owns_base {base base' : Nat} {e : TypeId} {size n : Nat} {v : Value} {xs : List Value} (h : a.ownsRow base e size v n xs) (hb : base' ≤ base) : a.ownsRow base' e size v n xs := by
  refine ⟨h.1, ?_⟩
  rcases h.2 with hv | ⟨g', cap, cur, rfl, hg, r⟩
  · exact .inl hv
  · exact .inr ⟨g', cap, cur, rfl, Nat.le_trans hb hg, r⟩
end

/-- The bytes bs lie at A, in blocks from lo on and below hi. -/
def Rd (w : World) (lo hi : Nat) (A : Option Addr) (bs : List UInt8) : Prop :=
  0 < bs.length → ∃ ad, A = some ad ∧ lo ≤ ad.block ∧ ad.block < hi ∧ ∀ j u, (b8s bs)[j]? = some u → w.cell? (ad.add j) = some u

section
variable {a b w w' : World} {S : Nat → Prop} {lo hi : Nat} {A : Option Addr} {bs : List UInt8}
theorem addr_block (ad : Addr) (n : Nat) : (ad.add n).block = ad.block := by unfold Addr.add; split <;> rfl
theorem addr_add (ad : Addr) (i j : Nat) : (ad.add i).add j = ad.add (i + j) := by
  unfold Addr.add
  by_cases hi : i = 0 <;> by_cases hj : j = 0 <;> simp [hi, hj, Nat.add_assoc]
theorem Rd.empty (w : World) (lo hi : Nat) (A : Option Addr) : Rd w lo hi A [] := fun h => absurd h (by simp)
theorem Rd.keep (h : Rd w lo hi A bs) (hk : ∀ p : Addr, lo ≤ p.block → p.block < hi → w'.cell? p = w.cell? p) : Rd w' lo hi A bs := fun hn => by
  obtain ⟨ad, e, h1, h2, hc⟩ := h hn
  exact ⟨ad, e, h1, h2, fun j u hu => (hk _ (by rw [addr_block]; exact h1) (by rw [addr_block]; exact h2)).trans (hc j u hu)⟩
theorem Rd.only (h : Rd a lo hi A bs) (k : Only S a b) (hh : hi ≤ a.heap.size) (hn : ∀ i, lo ≤ i → i < hi → ¬ S i) : Rd b lo hi A bs :=
  h.keep fun p h1 h2 => k.cell (by omega) (hn _ h1 h2)
theorem Rd.wide {lo' hi' : Nat} (h : Rd w lo hi A bs) (h1 : lo' ≤ lo) (h2 : hi ≤ hi') : Rd w lo' hi' A bs := fun hn => by
  obtain ⟨ad, e, k1, k2, hc⟩ := h hn
  exact ⟨ad, e, by omega, by omega, hc⟩
theorem Rd.at (h : Rd w lo hi A bs) {k : Nat} (hk : k < bs.length) : ∃ ad, A = some ad ∧ lo ≤ ad.block ∧ ad.block < hi ∧ w.cell? (ad.add k) = some (b8 bs[k]) := by
  obtain ⟨ad, e, h1, h2, hc⟩ := h (by omega)
  exact ⟨ad, e, h1, h2, hc k _ (b8s_get hk)⟩
theorem Rd.take (h : Rd w lo hi A bs) (k : Nat) : Rd w lo hi A (bs.take k) := fun hn => by
  have hl : (bs.take k).length ≤ bs.length := by simp; omega
  obtain ⟨ad, e, h1, h2, hc⟩ := h (by omega)
  refine ⟨ad, e, h1, h2, fun j u hu => hc j u ?_⟩
  simp only [b8s, List.getElem?_map, List.getElem?_take] at hu ⊢
  split at hu
  · exact hu
  · simp at hu
theorem Rd.drop (h : Rd w lo hi A bs) {k cap : Nat} (hk : k ≤ bs.length) (hc : bs.length ≤ cap) :
    Rd w lo hi (if cap = k then A else A.map (·.add k)) (bs.drop k) := fun hn => by
  have hl : (bs.drop k).length = bs.length - k := by simp
  obtain ⟨ad, rfl, h1, h2, hcell⟩ := h (by omega)
  rw [if_neg (by omega)]
  refine ⟨ad.add k, rfl, by rw [addr_block]; exact h1, by rw [addr_block]; exact h2, fun j u hu => ?_⟩
  rw [addr_add]
  refine hcell _ u ?_
  rw [← hu]
  simp [b8s, List.getElem?_map, List.getElem?_drop]
theorem Rd.of_own {base : Nat} {e : TypeId} {c n : Nat} (h : w.ownsRow base e 1 (.slice A n c) n (b8s bs)) : Rd w base w.heap.size A bs := fun hn => by
  have hl := h.1
  rw [b8s_length] at hl
  obtain ⟨g, cap, hv, hb, hlt⟩ := h.form (by omega)
  have hA : A = some ⟨g, 0, none⟩ := by injection hv
  subst hA
  exact ⟨_, rfl, hb, hlt, h.cells (g := g) rfl⟩
end

/-- A slice value that reads as bytes. -/
def SlIs (w : World) (lo hi : Nat) (v : Value) (bs : List UInt8) : Prop := ∃ A c, v = .slice A bs.length c ∧ bs.length ≤ c ∧ c ≤ maxLen ∧ Rd w lo hi A bs

section
variable {P : Program} (w : World)
/-- Nothing is appended. -/
theorem run_append_nothing (base : Nat) (t ty e : TypeId) (i : TypeInfo) (size : Nat) (ht : P.underlying t = some (.slice e)) (hi : P.info? e = some i)
    (v : Value) (n : Nat) (xs : List Value) (hown : w.ownsRow base e size v n xs) (c : Nat) : (Builtin.append_ #[t, t] ty #[v, .slice none 0 c]).run P w = .ok v w := by
  rcases hown.2 with ⟨rfl, rfl⟩ | ⟨g, cap, cur, rfl, _, _, hnc, _⟩
  · simp [Builtin.append_, run_underlying ht, sizeOf, typeInfo, hi, Builtin.lenOf, Builtin.firstCells]
  · simp [Builtin.append_, run_underlying ht, sizeOf, typeInfo, hi, Builtin.lenOf, Builtin.firstCells, hnc, storeCells]

/-- append of bytes onto a row of one's own, whatever slice they come in. -/
theorem run_append_bytes (base : Nat) (t ty e : TypeId) (i : TypeInfo) (ht : P.underlying t = some (.slice e)) (hi : P.info? e = some i) (hz : i.zero = some (.int .u8 0))
    (hsize : i.size = 1) (hby : i.bytes = 1) (v : Value) (xs bs : List UInt8) (hown : w.ownsRow base e 1 v xs.length (b8s xs))
    (lo hi' : Nat) (x : Value) (hx : SlIs w lo hi' x bs) (hlen : (xs ++ bs).length ≤ 140737488355328) (hbase : base ≤ w.heap.size) :
    ∃ v' w', (Builtin.append_ #[t, t] ty #[v, x]).run P w = .ok v' w' ∧ w'.ownsRow base e 1 v' (xs ++ bs).length (b8s (xs ++ bs)) ∧ w.grownBy w' v.ownBlock ∧
      (v'.ownBlock = v.ownBlock ∨ v'.ownBlock = some w.heap.size) := by
  obtain ⟨A, c, rfl, _, _, hr⟩ := hx
  have hl : (xs ++ bs).length = xs.length + bs.length := List.length_append
  have hl' : (b8s bs).length = bs.length := b8s_length bs
  cases A with
  | none =>
    have hb : bs = [] := by
      rcases Nat.eq_zero_or_pos bs.length with h0 | h0
      · exact List.eq_nil_of_length_eq_zero h0
      · obtain ⟨ad, h, _⟩ := hr h0
        cases h
    subst hb
    exact ⟨v, w, run_append_nothing w base t ty e i 1 ht hi v _ _ hown c, by simpa using hown, ⟨rfl, rfl, rfl, Nat.le_refl _, fun _ _ _ => rfl⟩, .inl rfl⟩
  | some ad =>
    have hcells : ∀ j u, (b8s bs)[j]? = some u → w.cell? (ad.add j) = some u := by
      intro j u hu
      rcases Nat.eq_zero_or_pos bs.length with h0 | h0
      · rw [List.eq_nil_of_length_eq_zero h0] at hu
        simp [b8s] at hu
      · obtain ⟨ad', h, _, _, hc⟩ := hr h0
        injection h with h
        subst h
        exact hc j u hu
    obtain ⟨v', w', hrun, h2, h3, _, h5⟩ := run_append_own_at (P := P) w base t ty e i (.int .u8 0) 1 1 ht hi hz hsize hby rfl (by omega) v xs.length (b8s xs) hown ad bs.length c (b8s bs) (by omega) hcells (b8s_one bs)
      (by simp only [maxLen]; omega) (by omega) hbase
    refine ⟨v', w', hrun, ?_, h3, h5⟩
    rw [hl, b8s_append]
    exact h2

theorem wpList_append_bytes {ops : Array Oper} {rest : List Oper} {o : Oper} {a : Act} {Q : Exit → Act → World → Prop} (hgd : o.guard = none) (s x : Operand) (t : TypeId)
    (ho : o.op = .call { callee := .builtin .append, args := #[s, x], argTypes := #[t, t] })
    (base : Nat) (e : TypeId) (i : TypeInfo) (ht : P.underlying t = some (.slice e)) (hi : P.info? e = some i) (hz : i.zero = some (.int .u8 0))
    (hsize : i.size = 1) (hby : i.bytes = 1) (v : Value) (xs bs : List UInt8) (hs : a.eval s = v) (hown : w.ownsRow base e 1 v xs.length (b8s xs))
    (lo hi' : Nat) (xv : Value) (hxv : a.eval x = xv) (hx : SlIs w lo hi' xv bs) (hlen : (xs ++ bs).length ≤ 140737488355328) (hbase : base ≤ w.heap.size)
    (h : ∀ v' w', w'.ownsRow base e 1 v' (xs ++ bs).length (b8s (xs ++ bs)) → w.grownBy w' v.ownBlock → (v'.ownBlock = v.ownBlock ∨ v'.ownBlock = some w.heap.size) → wpList P ops Q rest (a.put o.dst v') w') :
    wpList P ops Q (o :: rest) a w := by
  refine wpList_plain hgd fun K hK => ?_
  obtain ⟨v', w', hr, h2, h3, h4⟩ := run_append_bytes (P := P) w base t o.type e i ht hi hz hsize hby v xs bs hown lo hi' xv hx hlen hbase
  unfold Oper.wp execOp
  simp only [ho, resolve, invoke, builtin, Sem.run_bind, Sem.run_pure, Result.andThen_ok, List.map_toArray, List.map_cons, List.map_nil, hs, hxv, hr]
  exact hK _ _ (h v' w' h2 h3 h4)

/-- The same at a step of a region that draws its order. -/
theorem step_append_bytes {ops : Array Oper} {o : Oper} {a : Act} {K : Act → World → Prop} {Q : Exit → Act → World → Prop} {E : Prop} (hgd : o.guard = none) (s x : Operand) (t : TypeId)
    (ho : o.op = .call { callee := .builtin .append, args := #[s, x], argTypes := #[t, t] })
    (base : Nat) (e : TypeId) (i : TypeInfo) (ht : P.underlying t = some (.slice e)) (hi : P.info? e = some i) (hz : i.zero = some (.int .u8 0))
    (hsize : i.size = 1) (hby : i.bytes = 1) (v : Value) (xs bs : List UInt8) (hs : a.eval s = v) (hown : w.ownsRow base e 1 v xs.length (b8s xs))
    (lo hi' : Nat) (xv : Value) (hxv : a.eval x = xv) (hx : SlIs w lo hi' xv bs) (hlen : (xs ++ bs).length ≤ 140737488355328) (hbase : base ≤ w.heap.size)
    (h : ∀ v' w', w'.ownsRow base e 1 v' (xs ++ bs).length (b8s (xs ++ bs)) → w.grownBy w' v.ownBlock → (v'.ownBlock = v.ownBlock ∨ v'.ownBlock = some w.heap.size) → K (a.put o.dst v') w') :
    if Region.wanted o (yielded ops a.tmps) = true then Oper.wp P o a w K Q else E := by
  have hw : Region.wanted o (yielded ops a.tmps) = true := by simp [Region.wanted, hgd]
  rw [if_pos hw]
  obtain ⟨v', w', hr, h2, h3, h4⟩ := run_append_bytes (P := P) w base t o.type e i ht hi hz hsize hby v xs bs hown lo hi' xv hx hlen hbase
  unfold Oper.wp execOp
  simp only [ho, resolve, invoke, builtin, Sem.run_bind, Sem.run_pure, Result.andThen_ok, List.map_toArray, List.map_cons, List.map_nil, hs, hxv, hr]
  exact h v' w' h2 h3 h4
end
end Go.Proofs.YtepiifbleoimkaaGreatDoor
namespace Go.Proofs.YtepiifbleoimkaaGreatDoor
open Go.RowKit

theorem Tryz.info8 : (Tryz.prog.info? 5).map (fun i => (i.zero, i.size, i.bytes)) = some (some (.int .u8 0), 1, 1) := by kernel_rfl

def Cloned (w : World) (bs : List UInt8) (e : Ending) (w' : World) : Prop :=
  ∃ v, e = .returned v ∧ w'.ownsRow w.heap.size 5 1 v bs.length (b8s bs) ∧ Below w.heap.size w w'

set_option maxHeartbeats 400000 in
theorem clone_nil (n c : Nat) (w : World) :
    Calls Tryz.prog 40 #[.slice none n c] w (Cloned w []) := by
  have hnil := fun W => Go.Lib.run_eql_slice_nil (P := Tryz.prog) W 22 5 none n c 0 0 Tryz.underlying22
  go_enter Tryz.func40, Tryz.ntmps40
  go_wp2
  go_ret
  exact ⟨_, rfl, World.ownsRow_nil _ _ _ _, Below.refl _ _⟩

set_option maxHeartbeats 400000 in
theorem clone_empty (ad : Addr) (c : Nat) (w : World) :
    Calls Tryz.prog 40 #[.slice (some ad) 0 c] w (Cloned w []) := by
  have hnil := fun W => Go.Lib.run_eql_slice_nil (P := Tryz.prog) W 22 5 (some ad) 0 c 0 0 Tryz.underlying22
  obtain ⟨i0, hi, hz0, hz1, hz2⟩ := info_parts Tryz.info8
  have hown : (w.alloc (.cells #[] 5)).ownsRow w.heap.size 5 1 (.slice (some ⟨w.heap.size, 0, none⟩) 0 0) 0 [] :=
    World.ownsRow_made w #[] 0 (Nat.le_refl _) (by simp [maxLen]) (by simp)
  have H1 := Lib.hid hown
  clear hown
  go_enter Tryz.func40, Tryz.ntmps40
  go_wp2_with (at_builtin; refine wpList_append_own_at _ rfl (.tmp 5) (.tmp 6) 22 rfl w.heap.size 5 i0 (.int .u8 0) 1 1 Tryz.underlying22 hi hz0 hz1 hz2 rfl (by decide) _ _ _ rfl H1.out ad 0 c [] rfl (by simp) (by simp) (by simp) (by simp [maxLen]) (by omega) (by simp) ?_)
  intro v' w1 h1 h2 _ _
  have h1 : w1.ownsRow w.heap.size 5 1 v' 0 [] := by simpa using h1
  have R : Hid (Cloned w [] (.returned v') w1) := ⟨_, rfl, h1, ((Below.refl _ w).alloc (Nat.le_refl _) _).grown h2 (by simp) (by simp [Value.ownBlock])⟩
  clear h1 h2
  go_wp2
  go_ret
  exact R.out

set_option maxHeartbeats 400000 in
theorem clone_some (ad : Addr) (c : Nat) (bs : List UInt8) (w : World) (hr : ∀ j u, (b8s bs)[j]? = some u → w.cell? (ad.add j) = some u) (hl : bs.length ≤ 140737488355328) (hlt : ad.block < w.heap.size) :
    Calls Tryz.prog 40 #[.slice (some ad) bs.length c] w (Cloned w bs) := by
  have hnil := fun W => Go.Lib.run_eql_slice_nil (P := Tryz.prog) W 22 5 (some ad) bs.length c 0 0 Tryz.underlying22
  obtain ⟨i0, hi, hz0, hz1, hz2⟩ := info_parts Tryz.info8
  have hown : (w.alloc (.cells #[] 5)).ownsRow w.heap.size 5 1 (.slice (some ⟨w.heap.size, 0, none⟩) 0 0) 0 [] :=
    World.ownsRow_made w #[] 0 (Nat.le_refl _) (by simp [maxLen]) (by simp)
  have hnews : ∀ j u, (b8s bs)[j]? = some u → (w.alloc (.cells #[] 5)).cell? (ad.add j) = some u := fun j u hu =>
    (World.cell?_alloc_lt w _ _ (by rw [addr_block]; exact hlt)).trans (hr j u hu)
  have hlen := b8s_length bs
  have H1 := Lib.hid hown
  have H2 := Lib.hid hnews
  have H3 := Lib.hid hlen
  clear hown hnews hlen hr
  go_enter Tryz.func40, Tryz.ntmps40
  go_wp2_with (at_builtin; refine wpList_append_own_at _ rfl (.tmp 5) (.tmp 6) 22 rfl w.heap.size 5 i0 (.int .u8 0) 1 1 Tryz.underlying22 hi hz0 hz1 hz2 rfl (by decide) _ _ _ rfl H1.out ad bs.length c (b8s bs) rfl (by rw [H3.out]; omega) H2.out (b8s_one bs) (by simp [maxLen]; omega) (by omega) (by simp) ?_)
  intro v' w1 h1 h2 _ _
  have h1 : w1.ownsRow w.heap.size 5 1 v' bs.length (b8s bs) := by simpa using h1
  have R : Hid (Cloned w bs (.returned v') w1) := ⟨_, rfl, h1, ((Below.refl _ w).alloc (Nat.le_refl _) _).grown h2 (by simp) (by simp [Value.ownBlock])⟩
  clear h1 h2
  go_wp2
  go_ret
  exact R.out

/-- Clone: a row of one's own with these bytes; nothing that was there turns. -/
theorem clone_any (v : Value) (bs : List UInt8) (lo hi : Nat) (w : World) (hv : SlIs w lo hi v bs) (hhi : hi ≤ w.heap.size) (hl : bs.length ≤ 140737488355328) :
    Calls Tryz.prog 40 #[v] w (Cloned w bs) := by
  obtain ⟨A, c, rfl, hc, hm, hr⟩ := hv
  cases A with
  | none =>
    have : bs = [] := by
      rcases Nat.eq_zero_or_pos bs.length with h0 | h0
      · exact List.eq_nil_of_length_eq_zero h0
      · obtain ⟨ad, h, _⟩ := hr h0
        cases h
    subst this
    exact clone_nil _ _ w
  | some ad =>
    by_cases h0 : 0 < bs.length
    · obtain ⟨ad', h, _, h2, h3⟩ := hr h0
      injection h with h
      subst h
      exact clone_some ad c bs w h3 hl (by omega)
    · have : bs = [] := List.eq_nil_of_length_eq_zero (by omega)
      subst this
      exact clone_empty ad c w
end Go.Proofs.YtepiifbleoimkaaGreatDoor
namespace Go.Proofs.YtepiifbleoimkaaGreatDoor
open Go.RowKit

theorem must_yes (e : Int) (w : World) : Calls Tryz.prog 29 #[.bool true, .int .i64 e] w fun e w' => e = .returned (.tuple #[]) ∧ w = w' := by
  go_enter Tryz.func29, Tryz.ntmps29
  go_wp2
  go_end0
  exact ⟨rfl, rfl⟩
theorem must_no (e : Int) (w : World) : Calls Tryz.prog 29 #[.bool false, .int .i64 e] w fun r w' => r = .panicked [{ v := .iface 35 (.int .i64 e), recovered := false }] ∧ w = w' := by
  go_enter Tryz.func29, Tryz.ntmps29
  go_wp2
  exact ⟨rfl, rfl, rfl⟩

theorem Tryz.asserts (e : Int) (w : World) : (Instr.typeAssert (.iface 35 (.int .i64 e)) 20 35 true).run Tryz.prog w = .ok (.tuple #[.int .i64 e, .bool true]) w := by kernel_rfl

theorem caught1_slots (p e : Value) :
    #[p] ++ (Array.replicate 10 undef).setIfInBounds 3 e = #[p, undef, undef, undef, e, undef, undef, undef, undef, undef, undef] := by kernel_rfl

set_option maxHeartbeats 400000 in
theorem caught1_panicking (b : Nat) (e : Int) (x : Value) (older : List PanicEntry) (w : World) (hb : Has w b 35 #[x]) :
    CallsD Tryz.prog 35 #[.pointer (some ⟨b, 0, none⟩)] (.panicking ({ v := .iface 35 (.int .i64 e), recovered := false } :: older)) w fun r u' w' =>
      r = .returned (.tuple #[]) ∧ u' = .panicking ({ v := .iface 35 (.int .i64 e), recovered := true } :: older) ∧ w' = w.setCell ⟨b, 0, none⟩ (.int .i64 e) := by
  have c0 := hb.cell 0
  have f0 := hb.frozen 0
  simp at c0
  refine callsD_of_wpS Tryz.func35 rfl fun c₀ cs hu => ?_
  apply wpS_seq
  apply wpS_region
  simp [wpOpsS, go_sem, recoverD, hu, Tryz.ntmps35, Exit.thenS]
  refine wpS_of_wp ?_
  rw [caught1_slots]
  have ha := Tryz.asserts
  go_wp2
  simp [bodyPostS, results, Tryz.results35, go_sem]

set_option maxHeartbeats 400000 in
theorem caught1_idle (b : Nat) (w : World) :
    CallsD Tryz.prog 35 #[.pointer (some ⟨b, 0, none⟩)] .returning w fun r u' w' => r = .returned (.tuple #[]) ∧ u' = .returning ∧ w' = w := by
  refine callsD_of_wpS Tryz.func35 rfl fun c₀ cs hu => ?_
  apply wpS_seq
  apply wpS_region
  simp [wpOpsS, go_sem, recoverD, hu, Tryz.ntmps35, Exit.thenS]
  refine wpS_of_wp ?_
  rw [caught1_slots]
  go_wp2
  cases c₀
  simp_all [bodyPostS, results, Tryz.results35, go_sem]

theorem Has.same {w : World} {g : Nat} {t : TypeId} {u : Value} (h : Has w g t #[u]) : w.setCell ⟨g, 0, none⟩ u = w := by
  unfold Has at h
  have hk : (w.setCell ⟨g, 0, none⟩ u).heap = w.heap := by
    apply Array.ext_getElem?
    intro i
    by_cases hi : g = i
    · subst hi
      simp [World.setCell, Array.getElem?_modify, h]
    · exact Below.heap_setCell w ⟨g, 0, none⟩ u i (by intro e; exact hi (by simpa using e.symm))
  have : w.setCell ⟨g, 0, none⟩ u = { w with heap := (w.setCell ⟨g, 0, none⟩ u).heap } := rfl
  rw [this, hk]

/-- What Caught lays for its answer. -/
def errBox : Obj := .cells #[.int .i64 0] 35
set_option maxHeartbeats 400000 in
theorem caught_ok (g : Nat) (lb : Array Value) (eg : ∀ args w, (callFunc g args).run Tryz.prog w = .ok (.enter g args) w) (w : World) (R : World → Prop)
    (hR : Calls Tryz.prog g lb (w.alloc errBox) fun e w' => e = .returned (.tuple #[]) ∧ Has w' w.heap.size 35 #[.int .i64 0] ∧ R w') :
    Calls Tryz.prog 14 #[.func (.func g) #[] lb] w fun e w' => e = .returned (.int .i64 0) ∧ R w' := by
  have H : Hid (Calls Tryz.prog g lb (w.alloc (.cells #[.int .i64 0] 35)) fun e w' => e = .returned (.tuple #[]) ∧ Has w' w.heap.size 35 #[.int .i64 0] ∧ R w') := by
    simpa [errBox] using Lib.hid hR
  clear hR
  have hmf : ∀ (fn : Fn) (first cap : Array Value) (w : World), (Instr.makeFunc fn first cap).run Tryz.prog w = .ok (.func fn first cap) w := fun _ _ _ _ => rfl
  go_enter_defers Tryz.func14, Tryz.ntmps14
  go_wp2_with (go_at_fn g; refine H.out.mono ?_; rintro e w' ⟨rfl, hb, hr⟩; have HR := Lib.hid hr; have HB := Lib.hid hb; have hc := hb.cell 0; have hf := hb.frozen 0; have hs := hb.same; simp at hc; clear hr hb H)
  refine leaves_cons (f := 35) (args := #[.pointer (some ⟨w.heap.size, 0, none⟩)]) (by simp) (by simp [go_sem]) ?_
  refine (caught1_idle _ _).mono ?_
  rintro e u' w'' ⟨rfl, rfl, rfl⟩
  simp [Leaves, settle, results, Tryz.results14, go_sem, hc]
  exact HR.out

set_option maxHeartbeats 400000 in
theorem caught_panic (g : Nat) (lb : Array Value) (eg : ∀ args w, (callFunc g args).run Tryz.prog w = .ok (.enter g args) w) (w : World) (er : Int) (R : World → Prop)
    (hR : Calls Tryz.prog g lb (w.alloc errBox) fun e w' => e = .panicked [{ v := .iface 35 (.int .i64 er), recovered := false }] ∧ Has w' w.heap.size 35 #[.int .i64 0] ∧ R w') :
    Calls Tryz.prog 14 #[.func (.func g) #[] lb] w fun e w' => e = .returned (.int .i64 er) ∧ ∃ w1, Has w1 w.heap.size 35 #[.int .i64 0] ∧ R w1 ∧ w' = w1.setCell ⟨w.heap.size, 0, none⟩ (.int .i64 er) := by
  have H : Hid (Calls Tryz.prog g lb (w.alloc (.cells #[.int .i64 0] 35)) fun e w' => e = .panicked [{ v := .iface 35 (.int .i64 er), recovered := false }] ∧ Has w' w.heap.size 35 #[.int .i64 0] ∧ R w') := by
    simpa [errBox] using Lib.hid hR
  clear hR
  have hmf : ∀ (fn : Fn) (first cap : Array Value) (w : World), (Instr.makeFunc fn first cap).run Tryz.prog w = .ok (.func fn first cap) w := fun _ _ _ _ => rfl
  go_enter_defers Tryz.func14, Tryz.ntmps14
  go_wp2_with (go_at_fn g; refine H.out.mono ?_; rintro e w' ⟨rfl, hb, hr⟩; have HR := Lib.hid hr; have HB := Lib.hid hb; clear hr hb H)
  refine leaves_cons (f := 35) (args := #[.pointer (some ⟨w.heap.size, 0, none⟩)]) (by simp) (by simp [go_sem]) ?_
  refine (caught1_panicking _ er _ [] _ HB.out).mono ?_
  rintro e u' w'' ⟨rfl, rfl, rfl⟩
  have hc := (HB.out.set 0 (.int .i64 er)).cell 0
  simp at hc
  simp [Leaves, settle, results, Tryz.results14, go_sem, hc]
  exact ⟨w', HB.out, HR.out, rfl⟩
end Go.Proofs.YtepiifbleoimkaaGreatDoor
namespace Go.Proofs.YtepiifbleoimkaaGreatDoor
open Go.RowKit

/-- An Out at block g, its list v, its bytes; all in blocks from B on. -/
structure OutAt (w : World) (B g : Nat) (v : Value) (bs : List UInt8) : Prop where
  has : Has w g 71 #[v]
  own : w.ownsRow B 5 1 v bs.length (b8s bs)
  low : B ≤ g

/-- The blocks that an Out's calls may write. -/
def Foot (g : Nat) (v : Value) (i : Nat) : Prop := i = g ∨ v.ownBlock = some i

/-- What a call that adds to an Out leaves. -/
def OutStep (w : World) (B g : Nat) (v : Value) (bs : List UInt8) (e : Ending) (w' : World) : Prop :=
  ∃ v', e = .returned (.tuple #[]) ∧ OutAt w' B g v' bs ∧ Only (Foot g v) w w' ∧ ∀ i, v'.ownBlock = some i → v.ownBlock = some i ∨ w.heap.size ≤ i

/-- An In at block g: the bytes that are left (in blocks from lo on, below g), the error. -/
def InAt (w : World) (lo g : Nat) (bs : List UInt8) (err : Int) : Prop :=
  ∃ A c, Has w g 87 #[.slice A bs.length c, .int .i64 err] ∧ bs.length ≤ c ∧ c ≤ maxLen ∧ Rd w lo g A bs ∧ lo ≤ g

theorem InAt.only {a b : World} {S : Nat → Prop} {lo g : Nat} {bs : List UInt8} {err : Int} (h : InAt a lo g bs err) (k : Only S a b) (hn : ∀ i, lo ≤ i → i ≤ g → ¬ S i) : InAt b lo g bs err := by
  obtain ⟨A, c, h1, h2, h3, h4, h5⟩ := h
  exact ⟨A, c, h1.only k (hn _ h5 (Nat.le_refl _)), h2, h3, h4.only k (Nat.le_of_lt h1.lt) (fun i hi hj => hn i hi (Nat.le_of_lt hj)), h5⟩
theorem InAt.lt {a : World} {lo g : Nat} {bs : List UInt8} {err : Int} (h : InAt a lo g bs err) : lo ≤ g ∧ g < a.heap.size := by
  obtain ⟨A, c, h1, h2, h3, h4, h5⟩ := h
  exact ⟨h5, h1.lt⟩
theorem OutAt.only {a b : World} {S : Nat → Prop} {B g : Nat} {v : Value} {bs : List UInt8} (h : OutAt a B g v bs) (k : Only S a b) (hn : ∀ i, Foot g v i → ¬ S i) : OutAt b B g v bs :=
  ⟨h.has.only k (hn _ (.inl rfl)), owns_only h.own k (fun i hi => hn i (.inr hi)), h.low⟩
theorem OutAt.foot_lt {a : World} {B g : Nat} {v : Value} {bs : List UInt8} (h : OutAt a B g v bs) {i : Nat} (hi : Foot g v i) : B ≤ i ∧ i < a.heap.size := by
  rcases hi with rfl | hi
  · exact ⟨h.low, h.has.lt⟩
  · exact h.own.lt i hi

theorem owns_slice {w : World} {B : Nat} {v : Value} {bs : List UInt8} (h : w.ownsRow B 5 1 v bs.length (b8s bs)) :
    ∃ A c, v = .slice A bs.length c ∧ bs.length ≤ c ∧ c ≤ maxLen ∧ Rd w B w.heap.size A bs := by
  rcases h.2 with ⟨rfl, h0⟩ | ⟨g, cap, cur, rfl, _, _, h1, h2, _⟩
  · refine ⟨none, 0, by rw [h0], by omega, by simp [maxLen], ?_⟩
    intro hn
    omega
  · exact ⟨_, cap, rfl, h1, h2, Rd.of_own h⟩
theorem owns_SlIs {w : World} {B : Nat} {v : Value} {bs : List UInt8} (h : w.ownsRow B 5 1 v bs.length (b8s bs)) : SlIs w B w.heap.size v bs := owns_slice h

theorem width_yes (n : Int) (w : World) (h1 : 1 ≤ n) (h2 : n ≤ 8) : Calls Tryz.prog 50 #[.int .i64 n] w fun e w' => e = .returned (.bool true) ∧ w = w' := by
  go_enter Tryz.func50, Tryz.ntmps50
  go_wp2
  go_ret
  exact ⟨rfl, rfl⟩
theorem width_no (n : Int) (w : World) (h : n < 1 ∨ 8 < n) : Calls Tryz.prog 50 #[.int .i64 n] w fun e w' => e = .returned (.bool false) ∧ w = w' := by
  by_cases h1 : n < 1
  · go_enter Tryz.func50, Tryz.ntmps50
    go_wp2
    go_ret
    exact ⟨rfl, rfl⟩
  · have h2 : 8 < n := by omega
    have h3 : 1 ≤ n := by omega
    have h4 : decide (n ≤ 8) = false := decide_eq_false (by omega)
    go_enter Tryz.func50, Tryz.ntmps50
    go_wp2
    go_ret
    exact ⟨rfl, rfl⟩
set_option maxHeartbeats 400000 in
theorem left_any (lo g : Nat) (bs : List UInt8) (err : Int) (w : World) (h : InAt w lo g bs err) :
    Calls Tryz.prog 39 #[.pointer (some ⟨g, 0, none⟩)] w fun e w' => e = .returned (.int .i64 (bs.length : Int)) ∧ w = w' := by
  obtain ⟨A, c, h1, h2, h3, h4, h5⟩ := h
  have hc := h1.cell 0
  simp at hc
  clear h1
  go_enter Tryz.func39, Tryz.ntmps39
  go_wp2
  go_ret
  exact ⟨rfl, rfl⟩
set_option maxHeartbeats 400000 in
theorem err_any (lo g : Nat) (bs : List UInt8) (err : Int) (w : World) (h : InAt w lo g bs err) :
    Calls Tryz.prog 38 #[.pointer (some ⟨g, 0, none⟩)] w fun e w' => e = .returned (.int .i64 err) ∧ w = w' := by
  obtain ⟨A, c, h1, h2, h3, h4, h5⟩ := h
  have hc := h1.cell 1
  simp at hc
  clear h1
  go_enter Tryz.func38, Tryz.ntmps38
  go_wp2
  go_ret
  exact ⟨rfl, rfl⟩

set_option maxHeartbeats 400000 in
theorem bytes_any (B g : Nat) (v : Value) (bs : List UInt8) (w : World) (h : OutAt w B g v bs) (hl : bs.length ≤ 140737488355328) :
    Calls Tryz.prog 32 #[.pointer (some ⟨g, 0, none⟩)] w (Cloned w bs) := by
  have hc := h.has.cell 0
  simp at hc
  have H := Lib.hid (owns_SlIs h.own)
  clear h
  obtain ⟨A, c, rfl⟩ : ∃ A c, v = .slice A bs.length c := by
    obtain ⟨A, c, h, _⟩ := H.out
    exact ⟨A, c, h⟩
  go_enter Tryz.func32, Tryz.ntmps32
  go_wp2_with fail
  refine (clone_any _ bs _ _ w H.out (Nat.le_refl _) hl).mono ?_
  rintro e w' ⟨v, rfl, h1, h2⟩
  have R : Hid (Cloned w bs (.returned v) w') := ⟨_, rfl, h1, h2⟩
  clear h1 h2 hc
  go_wp2
  go_ret
  exact R.out

def OfStep (w : World) (bs : List UInt8) (e : Ending) (w' : World) : Prop :=
  ∃ g, e = .returned (.pointer (some ⟨g, 0, none⟩)) ∧ InAt w' w.heap.size g bs 0 ∧ Below w.heap.size w w'

set_option maxHeartbeats 400000 in
theorem of_any (v : Value) (bs : List UInt8) (lo hi : Nat) (w : World) (hv : SlIs w lo hi v bs) (hhi : hi ≤ w.heap.size) (hl : bs.length ≤ 140737488355328) :
    Calls Tryz.prog 17 #[v] w (OfStep w bs) := by
  have H := Lib.hid (clone_any v bs lo hi w hv hhi hl)
  clear hv
  go_enter Tryz.func17, Tryz.ntmps17
  go_wp2_with fail
  refine H.out.mono ?_
  rintro e w1 ⟨v1, rfl, h1, h2⟩
  clear H
  obtain ⟨A, c, rfl, h3, h4, h5⟩ := owns_slice h1
  have R : Hid (OfStep w bs (.returned (.pointer (some ⟨w1.heap.size, 0, none⟩))) (w1.alloc (.cells #[.slice A bs.length c, .int .i64 0] 87))) :=
    ⟨_, rfl, ⟨A, c, Has.new _ _ _, h3, h4, h5.keep (fun p _ hp => World.cell?_alloc_lt w1 _ _ hp), h2.size⟩, h2.alloc h2.size _⟩
  clear h1 h2 h3 h4 h5
  go_wp2
  go_ret
  exact R.out
end Go.Proofs.YtepiifbleoimkaaGreatDoor
namespace Go.Proofs.YtepiifbleoimkaaGreatDoor
open Go.RowKit

/-- An append onto an Out's list, then the store of the new list. -/
theorem out_grown {w w1 : World} {B g : Nat} {v v' : Value} {bs bs' : List UInt8} (h : OutAt w B g v bs) (h1 : w1.ownsRow B 5 1 v' bs'.length (b8s bs')) (h2 : w.grownBy w1 v.ownBlock)
    (h3 : v'.ownBlock = v.ownBlock ∨ v'.ownBlock = some w.heap.size) :
    Has w1 g 71 #[v] ∧ OutStep w B g v bs' (.returned (.tuple #[])) (w1.setCell ⟨g, 0, none⟩ v') := by
  have hne := owns_ne h.own h.has (by decide)
  have k1 := Only.of_grown h2
  have hh : Has w1 g 71 #[v] := h.has.only k1 hne
  refine ⟨hh, v', rfl, ⟨hh.set 0 v', ?_, h.low⟩, ?_, ?_⟩
  · refine owns_only h1 ((Only.refl (fun i => i = g) w1).setCell (p := ⟨g, 0, none⟩) (fun _ => rfl) v') ?_
    rintro i hi rfl
    exact owns_ne h1 hh (by decide) hi.symm
  · refine (k1.mono (T := Foot g v) fun i _ hi => .inr hi.symm).setCell (p := ⟨g, 0, none⟩) (fun _ => .inl rfl) v'
  · intro i hi
    rcases h3 with h3 | h3
    · exact .inl (h3 ▸ hi)
    · right
      rw [h3] at hi
      injection hi with hi
      omega

set_option maxHeartbeats 400000 in
theorem outraw_any (B g : Nat) (v x : Value) (bs xs : List UInt8) (lo hi : Nat) (w : World) (h : OutAt w B g v bs) (hx : SlIs w lo hi x xs) (hl : (bs ++ xs).length ≤ 140737488355328) :
    Calls Tryz.prog 77 #[.pointer (some ⟨g, 0, none⟩), x] w (OutStep w B g v (bs ++ xs)) := by
  obtain ⟨i0, hi0, hz0, hz1, hz2⟩ := info_parts Tryz.info8
  have hc := h.has.cell 0
  simp at hc
  have hb : B ≤ w.heap.size := Nat.le_trans h.low (Nat.le_of_lt h.has.lt)
  have HO := Lib.hid h
  have HX := Lib.hid hx
  have HL := Lib.hid hl
  clear h hx hl
  go_enter Tryz.func77, Tryz.ntmps77
  go_wp2_with (at_builtin; refine wpList_append_bytes _ rfl (.tmp 8) (.tmp 9) 22 rfl B 5 i0 Tryz.underlying22 hi0 hz0 hz1 hz2 _ bs xs rfl HO.out.own lo hi _ rfl HX.out HL.out hb ?_)
  intro v' w1 h1 h2 h3
  have h1 : w1.ownsRow B 5 1 v' (bs ++ xs).length (b8s (bs ++ xs)) := by simpa using h1
  obtain ⟨r1, r2⟩ := out_grown HO.out h1 h2 h3
  obtain ⟨A, c, rfl, _⟩ := owns_slice h1
  have R := Lib.hid r2
  have hc1 := r1.cell 0
  have hf1 := r1.frozen 0
  simp at hc1
  clear h1 h2 h3 r1 r2 HO HX HL hc hb
  go_wp2
  go_end0
  have r := R.out
  rw [List.length_append] at r
  exact r

/-- The lowest k bytes of x, the lowest first. -/
def putB (k x : Nat) : List UInt8 := (List.range k).map fun j => UInt8.ofNat (x >>> (8 * j))
theorem putB_succ (k x : Nat) : putB (k + 1) x = putB k x ++ [UInt8.ofNat (x >>> (8 * k))] := by simp [putB, List.range_succ]
theorem putB_length (k x : Nat) : (putB k x).length = k := by simp [putB]

set_option maxHeartbeats 400000 in
theorem put_no (B g : Nat) (v : Value) (bs : List UInt8) (n x : Int) (w : World) (h : OutAt w B g v bs) (hn : n < 1 ∨ 8 < n) :
    Calls Tryz.prog 30 #[.pointer (some ⟨g, 0, none⟩), .int .i64 n, .int .u64 x] w (OutStep w B g v bs) := by
  have R : Hid (OutStep w B g v bs (.returned (.tuple #[])) w) := ⟨v, rfl, h, Only.refl _ _, fun i hi => .inl hi⟩
  have H := Lib.hid hn
  clear h hn
  go_enter Tryz.func30, Tryz.ntmps30
  go_wp2_with (go_at_call 50; refine (width_no n w H.out).mono ?_; rintro e w' ⟨rfl, rfl⟩)
  first | go_end0 | refine bodyPost_ret (results_none rfl _ _ _) rfl ?_
  exact R.out

/-- One byte of x as the machine reckons it: a shift, then the cut to eight bits. -/
theorem byte_of (x k : Nat) (hk : k < 8) : ∃ (X : Int) (c : UInt8), Op.shift .shr .u64 (x : Int) .i64 (IntKind.i64.wrap (8 * (k : Int))) = pure (.int .u64 X) ∧ IntKind.u8.wrap X = (c.toNat : Int) ∧ UInt8.ofNat (x >>> (8 * k)) = c := by
  refine ⟨((x >>> (8 * k) : Nat) : Int), _, ?_, ?_, rfl⟩
  · rw [IntWalk.i64_in _ (by omega), shift_shr .u64 .i64 _ _ (by omega) (by simp [IntKind.bits]; omega)]
    have h1 : (8 * (k : Int)).toNat = 8 * k := by omega
    rw [h1, Nat.shiftRight_eq_div_pow]
    simp
  · rw [IntKind.wrap_u8']
    simp [UInt8.toNat_ofNat']

def PutInv (B g : Nat) (v : Value) (bs : List UInt8) (x : Nat) (w : World) (k : Nat) (wr : World) : Prop :=
  ∃ v', OutAt wr B g v' (bs ++ putB k x) ∧ Only (Foot g v) w wr ∧ ∀ i, v'.ownBlock = some i → v.ownBlock = some i ∨ w.heap.size ≤ i

theorem put_step {B g : Nat} {v v1 : Value} {bs : List UInt8} {x k : Nat} {w wr w1 : World} {o : Obj} {A : Option Addr} {c gg cap : Nat} {cb : UInt8}
    (hO : OutAt wr B g v1 (bs ++ putB k x)) (hv : v1 = .slice A (bs.length + k) c) (hW : Only (Foot g v) w wr) (hQ : ∀ i, v1.ownBlock = some i → v.ownBlock = some i ∨ w.heap.size ≤ i)
    (hC : UInt8.ofNat (x >>> (8 * k)) = cb)
    (h1 : w1.ownsRow B 5 1 (.slice (some ⟨gg, 0, none⟩) (bs.length + k + 1) cap) (bs.length + k + 1) (b8s (bs ++ putB k x) ++ [b8 cb]))
    (h2 : ((wr.alloc o).drew).grownBy w1 (Value.ownBlock (.slice A (bs.length + k) c))) (h3 : Value.ownBlock (.slice A (bs.length + k) c) = some gg ∨ gg = wr.heap.size + 1) :
    (w1.cell? ⟨g, 0, none⟩ = some (.slice A (bs.length + k) c) ∧ w1.frozen? ⟨g, 0, none⟩ = false) ∧
      Hid (PutInv B g v bs x w (k + 1) (w1.setCell ⟨g, 0, none⟩ (.slice (some ⟨gg, 0, none⟩) (bs.length + k + 1) cap))) := by
  subst hv
  have hsz : ((wr.alloc o).drew).heap.size = wr.heap.size + 1 := by simp
  have k0 : Only (fun _ => False) wr ((wr.alloc o).drew) := ((Only.refl _ wr).alloc o).drew
  have hO1 : OutAt ((wr.alloc o).drew) B g _ (bs ++ putB k x) := hO.only k0 (fun _ _ h => h)
  have hl : (bs ++ putB (k + 1) x).length = bs.length + k + 1 := by simp [putB_length]; omega
  have h1' : w1.ownsRow B 5 1 (.slice (some ⟨gg, 0, none⟩) (bs.length + k + 1) cap) (bs ++ putB (k + 1) x).length (b8s (bs ++ putB (k + 1) x)) := by
    rw [hl, putB_succ, ← List.append_assoc, hC, b8s_append (bs ++ putB k x) [cb]]
    exact h1
  obtain ⟨r1, v', hv', r2, r3, r4⟩ := out_grown hO1 h1' h2 (by
    rcases h3 with h3 | h3
    · exact .inl h3.symm
    · exact .inr (by rw [h3, hsz]; rfl))
  refine ⟨⟨by simpa using r1.cell 0, r1.frozen 0⟩, v', r2, ?_, ?_⟩
  · refine hW.trans ((k0.mono (T := Foot g (.slice A (bs.length + k) c)) fun _ _ h => h.elim).trans r3 fun _ _ h => h) ?_
    rintro i hi (rfl | h)
    · exact .inl rfl
    · rcases hQ i h with h | h
      · exact .inr h
      · omega
  · intro i hi
    rcases r4 i hi with h | h
    · exact hQ i h
    · right
      have := hW.size
      omega

set_option maxHeartbeats 1000000 in
theorem put_yes (B g : Nat) (v : Value) (bs : List UInt8) (n x : Nat) (w : World) (h : OutAt w B g v bs) (h1 : 1 ≤ n) (h8 : n ≤ 8) (hx : x < 18446744073709551616) (hl : bs.length + n ≤ 140737488355328) :
    Calls Tryz.prog 30 #[.pointer (some ⟨g, 0, none⟩), .int .i64 (n : Int), .int .u64 (x : Int)] w (OutStep w B g v (bs ++ putB n x)) := by
  obtain ⟨i0, hi0, hz0, hz1, hz2⟩ := info_parts Tryz.info8
  have H0 : Hid (PutInv B g v bs x w 0 w) := ⟨v, by simpa [putB] using h, Only.refl _ _, fun i hi => .inl hi⟩
  have HX := Lib.hid hx
  clear h hx
  go_enter Tryz.func30, Tryz.ntmps30
  go_wp2_with (go_at_call 50; refine (width_yes n w (by omega) (by omega)).mono ?_; rintro e w' ⟨rfl, rfl⟩)
  go_loopw [11] (fun i wr => ∃ k : Nat, k ≤ n ∧ i = .int .i64 k ∧ Hid (PutInv B g v bs x w k wr)) (fun i _ => n - (intOf i).toNat)
  case atStart => exact ⟨0, Nat.zero_le _, rfl, H0⟩
  case round =>
    obtain ⟨k, hk, rfl, hrel⟩ := hrel
    clear H0
    by_cases hlt : k < n
    · obtain ⟨v1, hO, hW, hloc⟩ := hrel.out
      obtain ⟨A, c, hv1, _⟩ := owns_slice hO.own
      rw [List.length_append, putB_length] at hv1
      have hc := hO.has.cell 0
      simp only [hv1] at hc
      simp at hc
      have hown : wr.ownsRow B 5 1 (.slice A (bs.length + k) c) (bs.length + k) (b8s (bs ++ putB k x)) := by
        have := hO.own
        rw [List.length_append, putB_length, hv1] at this
        exact this
      have hglt := hO.has.lt
      have hlow := hO.low
      obtain ⟨X, cb, hX, hcb, HC⟩ := byte_of x k (by omega)
      replace HC := Lib.hid HC
      have HO := Lib.hid hO
      have HW := Lib.hid hW
      have HQ := Lib.hid hloc
      have HV := Lib.hid hv1
      have HN := Lib.hid hown
      have hm1 : bs.length + k + 1 ≤ maxLen := by simp only [maxLen]; omega
      have hm2 : (bs.length + k + 1) * 1 ≤ 140737488355328 := by omega
      clear hO hW hloc hrel hv1 hown
      go_wp2
      go_region_law ((refine step_append_lies _ (by rfl) _ _ _ (by rfl) B 5 i0 _ 1 1 Tryz.underlying22 hi0 hz0 hz1 hz2 rfl (by omega) _ _ _ (by rfl) ((HN.out.alloc _).drew) ⟨wr.heap.size, 0, none⟩ 1 1 [b8 cb] (by rfl) (by rfl) (World.news_of_block (cs := #[b8 cb]) (t := 5) (fr := (0, 0)) (heap_alloc_new wr _)) (by simp [b8, Value.oneCell']) (by omega) hm1 hm2 (by simp; omega) (wr.heap.size + 1) (by simp) ?_; intro gg cap w1 hown1 hgrow hat hlt1; obtain ⟨⟨hc1, hf1⟩, R⟩ := put_step HO.out HV.out HW.out HQ.out HC.out hown1 hgrow hat; clear hown1 hgrow hat hc HO HW HQ HC HV HN))
      all_goals
        go_wp2
        go_roundw
        case rel => exact ⟨k + 1, by omega, by go_num, R⟩
        case measure => simp [intOf]; omega
    · have : k = n := by omega
      subst this
      obtain ⟨v1, hO, hW, hloc⟩ := hrel.out
      have R : Hid (OutStep w B g v (bs ++ putB k x) (.returned (.tuple #[])) wr) := ⟨v1, rfl, hO, hW, hloc⟩
      clear hO hW hloc hrel
      go_wp2
      go_end0
      exact R.out
end Go.Proofs.YtepiifbleoimkaaGreatDoor
namespace Go.Proofs.YtepiifbleoimkaaGreatDoor
open Go.RowKit

/-- The bytes that are taken, and what becomes of the In. -/
def NextStep (w : World) (lo g : Nat) (bs : List UInt8) (n : Nat) (e : Ending) (w' : World) : Prop :=
  ∃ v, e = .returned v ∧ SlIs w' lo g v (bs.take n) ∧ InAt w' lo g (bs.drop n) 0 ∧ Only (fun i => i = g) w w'

set_option maxHeartbeats 400000 in
theorem next_no (lo g : Nat) (bs : List UInt8) (n : Int) (w : World) (h : InAt w lo g bs 0) (hn : (bs.length : Int) < n) :
    Calls Tryz.prog 62 #[.pointer (some ⟨g, 0, none⟩), .int .i64 n] w fun e w' => e = .panicked [{ v := .iface 35 (.int .i64 4), recovered := false }] ∧ w = w' := by
  obtain ⟨A, c, h1, h2, h3, h4, h5⟩ := h
  have hc := h1.cell 0
  simp at hc
  have hd : decide (n ≤ (bs.length : Int)) = false := decide_eq_false (by omega)
  clear h1 h4
  go_enter Tryz.func62, Tryz.ntmps62
  go_wp2_with fail
  refine (must_no 4 w).mono ?_
  rintro e w' ⟨rfl, rfl⟩
  go_wp2
  exact ⟨rfl, rfl, rfl⟩

theorem next_fin {lo g n c : Nat} {A D : Option Addr} {bs : List UInt8} {w : World} (h1 : Has w g 87 #[.slice A bs.length c, .int .i64 0]) (h4 : Rd w lo g A bs) (h2 : bs.length ≤ c) (h3 : c ≤ 2 ^ 63 - 1)
    (h5 : lo ≤ g) (hn : n ≤ bs.length) (hD : D = if c = n then A else A.map (·.add n)) :
    NextStep w lo g bs n (.returned (.slice A n c)) (w.setCell ⟨g, 0, none⟩ (.slice D (bs.length - n) (c - n))) := by
  have k0 : Only (fun i => i = g) w (w.setCell ⟨g, 0, none⟩ (.slice D (bs.length - n) (c - n))) := (Only.refl (fun i => i = g) w).setCell (p := ⟨g, 0, none⟩) (fun _ => rfl) _
  have hr := h4.only k0 (Nat.le_of_lt h1.lt) (fun i _ hi h => by omega)
  refine ⟨_, rfl, ⟨A, c, ?_, ?_, h3, hr.take n⟩, ⟨D, c - n, ?_, ?_, ?_, ?_, h5⟩, k0⟩
  · rw [List.length_take, Nat.min_eq_left hn]
  · rw [List.length_take]; omega
  · rw [List.length_drop]
    exact h1.set 0 _
  · rw [List.length_drop]; omega
  · simp only [maxLen]; omega
  · have hd := hr.drop hn h2
    rw [← hD] at hd
    exact hd

set_option maxHeartbeats 400000 in
theorem next_yes (lo g : Nat) (bs : List UInt8) (n : Nat) (w : World) (h : InAt w lo g bs 0) (hn : n ≤ bs.length) :
    Calls Tryz.prog 62 #[.pointer (some ⟨g, 0, none⟩), .int .i64 (n : Int)] w (NextStep w lo g bs n) := by
  obtain ⟨A, c, h1, h2, h3, h4, h5⟩ := h
  have hc := h1.cell 0
  have hf := h1.frozen 0
  simp at hc
  have hd : decide ((n : Int) ≤ (bs.length : Int)) = true := decide_eq_true (by omega)
  have hd2 : decide (n ≤ bs.length) = true := decide_eq_true (by omega)
  simp only [maxLen] at h3
  have H1 := Lib.hid h1
  have H4 := Lib.hid h4
  clear h1 h4
  go_enter Tryz.func62, Tryz.ntmps62
  go_wp2_with fail
  refine (must_yes 4 w).mono ?_
  rintro e w' ⟨rfl, rfl⟩
  go_wp2
  · have h : c = n := by assumption
    go_ret
    have R := next_fin H1.out H4.out h2 h3 h5 hn (D := A) (by rw [if_pos h])
    subst h
    simpa using R
  · have h : ¬ c = n := by assumption
    go_ret
    exact next_fin H1.out H4.out h2 h3 h5 hn (by rw [if_neg h])

/-- The number that bytes make, the lowest first. -/
def le : List UInt8 → Nat
  | [] => 0
  | c :: l => c.toNat + 256 * le l
theorem le_snoc (l : List UInt8) (c : UInt8) : le (l ++ [c]) = le l + c.toNat * 256 ^ l.length := by
  induction l with
  | nil => simp [le]
  | cons d l ih => simp only [List.cons_append, le, ih, List.length_cons, Nat.pow_succ, Nat.mul_add]; rw [Nat.add_assoc]; congr 2; rw [Nat.mul_left_comm, Nat.mul_comm 256]
theorem le_lt (l : List UInt8) : le l < 256 ^ l.length := by
  induction l with
  | nil => simp [le]
  | cons d l ih =>
    have := d.toNat_lt
    simp only [le, List.length_cons, Nat.pow_succ]
    omega
theorem pow8 (k : Nat) : 256 ^ k = 2 ^ (8 * k) := by rw [Nat.pow_mul]
theorem le_lt64 (l : List UInt8) (h : l.length ≤ 8) : le l < 18446744073709551616 := by
  have h1 := le_lt l
  have h2 : 256 ^ l.length ≤ 256 ^ 8 := Nat.pow_le_pow_right (by omega) h
  omega

/-- One byte more, as the machine reckons it. -/
theorem or_byte (V k : Nat) (c : UInt8) (hk : k < 8) (hV : V < 256 ^ k) :
    bits .or .u64 (V : Int) (IntKind.u64.wrap ((c.toNat : Int) * 2 ^ (8 * k))) = ((V + c.toNat * 256 ^ k : Nat) : Int) := by
  have hc := c.toNat_lt
  have hb : c.toNat * 256 ^ k < 18446744073709551616 := by
    have h1 : c.toNat * 256 ^ k < 256 * 256 ^ k := Nat.mul_lt_mul_of_pos_right (by omega) (Nat.pow_pos (by omega))
    have h2 : 256 * 256 ^ k = 256 ^ (k + 1) := by rw [Nat.pow_succ, Nat.mul_comm]
    have h3 : 256 ^ (k + 1) ≤ 256 ^ 8 := Nat.pow_le_pow_right (by omega) (by omega)
    omega
  have h2 : ((c.toNat : Int) * 2 ^ (8 * k)) = ((c.toNat * 256 ^ k : Nat) : Int) := by rw [pow8]; simp
  rw [h2, IntWalk.u64_in _ (by omega)]
  have hV2 : V < 18446744073709551616 := by
    have h3 : 256 ^ k ≤ 256 ^ 7 := Nat.pow_le_pow_right (by omega) (by omega)
    omega
  rw [u64_or_nat _ _ hV2 hb, Nat.or_comm, nat_join (8 * k) _ _ (by rw [pow8]; exact Nat.mul_mod_left _ _) (by rw [← pow8]; exact hV), Nat.add_comm]

/-- What a take's function leaves: its variable, the In. -/
def TookStep (w : World) (lo g vb : Nat) (t : TypeId) (r : World → Value → Prop) (bs' : List UInt8) (e : Ending) (w' : World) : Prop :=
  ∃ u, e = .returned (.tuple #[]) ∧ Has w' vb t #[u] ∧ r w' u ∧ InAt w' lo g bs' 0 ∧ Only (fun i => i = g ∨ i = vb) w w'

set_option maxHeartbeats 400000 in
theorem take1_arg (nb ib vb : Nat) (n : Int) (w : World) (hn : Has w nb 3 #[.int .i64 n]) (h : n < 1 ∨ 8 < n) :
    Calls Tryz.prog 61 #[.pointer (some ⟨nb, 0, none⟩), .pointer (some ⟨ib, 0, none⟩), .pointer (some ⟨vb, 0, none⟩)] w fun e w' => e = .panicked [{ v := .iface 35 (.int .i64 1), recovered := false }] ∧ w = w' := by
  have hc := hn.cell 0
  simp at hc
  have H := Lib.hid h
  clear hn h
  go_enter Tryz.func61, Tryz.ntmps61
  go_wp2_with fail
  refine (width_no n w H.out).mono ?_
  rintro e w' ⟨rfl, rfl⟩
  go_wp2_with fail
  refine (must_no 1 w).mono ?_
  rintro e w' ⟨rfl, rfl⟩
  go_wp2
  exact ⟨rfl, rfl, rfl⟩

set_option maxHeartbeats 400000 in
theorem take1_short (lo g nb ib vb : Nat) (n : Int) (bs : List UInt8) (w : World) (hn : Has w nb 3 #[.int .i64 n]) (hi : Has w ib 56 #[.pointer (some ⟨g, 0, none⟩)]) (hI : InAt w lo g bs 0)
    (h1 : 1 ≤ n) (h2 : n ≤ 8) (h3 : (bs.length : Int) < n) :
    Calls Tryz.prog 61 #[.pointer (some ⟨nb, 0, none⟩), .pointer (some ⟨ib, 0, none⟩), .pointer (some ⟨vb, 0, none⟩)] w fun e w' => e = .panicked [{ v := .iface 35 (.int .i64 4), recovered := false }] ∧ w = w' := by
  have hc := hn.cell 0
  have hc2 := hi.cell 0
  simp at hc hc2
  have H := Lib.hid hI
  clear hn hi hI
  go_enter Tryz.func61, Tryz.ntmps61
  go_wp2_with fail
  refine (width_yes n w h1 h2).mono ?_
  rintro e w' ⟨rfl, rfl⟩
  go_wp2_with fail
  refine (must_yes 1 w).mono ?_
  rintro e w' ⟨rfl, rfl⟩
  go_wp2_with fail
  refine (next_no lo g bs n w H.out h3).mono ?_
  rintro e w' ⟨rfl, rfl⟩
  go_wp2
  exact ⟨rfl, rfl, rfl⟩

def TakeInv (vb : Nat) (l : List UInt8) (w : World) (k : Nat) (wr : World) : Prop :=
  Has wr vb 28 #[.int .u64 (le (l.take k))] ∧ Only (fun i => i = vb) w wr

set_option maxHeartbeats 1000000 in
theorem take1_ok (lo g nb ib vb n : Nat) (bs : List UInt8) (w : World) (hn : Has w nb 3 #[.int .i64 (n : Int)]) (hi : Has w ib 56 #[.pointer (some ⟨g, 0, none⟩)]) (hv : Has w vb 28 #[.int .u64 0]) (hI : InAt w lo g bs 0)
    (hgv : g < vb) (h1 : 1 ≤ n) (h2 : n ≤ 8) (h3 : n ≤ bs.length) :
    Calls Tryz.prog 61 #[.pointer (some ⟨nb, 0, none⟩), .pointer (some ⟨ib, 0, none⟩), .pointer (some ⟨vb, 0, none⟩)] w
      (TookStep w lo g vb 28 (fun _ u => u = .int .u64 (le (bs.take n))) (bs.drop n)) := by
  have hc := hn.cell 0
  have hc2 := hi.cell 0
  simp at hc hc2
  have H := Lib.hid hI
  have HV := Lib.hid hv
  clear hn hi hI hv
  go_enter Tryz.func61, Tryz.ntmps61
  go_wp2_with fail
  refine (width_yes n w (by omega) (by omega)).mono ?_
  rintro e w' ⟨rfl, rfl⟩
  go_wp2_with fail
  refine (must_yes 1 w).mono ?_
  rintro e w' ⟨rfl, rfl⟩
  go_wp2_with fail
  refine (next_yes lo g bs n w H.out h3).mono ?_
  rintro e w1 ⟨v, rfl, hs, hI1, hO⟩
  obtain ⟨A, c, rfl, hlc, hcm, hr⟩ := hs
  have hlen : (bs.take n).length = n := by rw [List.length_take]; omega
  rw [hlen] at hlc
  rw [hlen]
  obtain ⟨l, hl⟩ : ∃ l, l = bs.take n := ⟨_, rfl⟩
  rw [← hl] at hr hlen
  obtain ⟨ad, rfl, hlo, hhi, hcells⟩ := hr (by omega)
  have HR := Lib.hid hr
  have HI1 := Lib.hid hI1
  have HO1 := Lib.hid hO
  have HL := Lib.hid hl
  have HN := Lib.hid hlen
  have H0 : Hid (TakeInv vb l w1 0 w1) := ⟨HV.out.only hO (by omega), Only.refl _ _⟩
  have hvlt := HV.out.lt
  have hsz := hO.size
  clear hr hI1 hO hl hlen hcells H HV
  go_wp2
  go_loopw [12] (fun i wr => ∃ k : Nat, k ≤ n ∧ i = .int .i64 k ∧ Hid (TakeInv vb l w1 k wr)) (fun i _ => n - (intOf i).toNat)
  case atStart => exact ⟨0, Nat.zero_le _, rfl, H0⟩
  case round =>
    obtain ⟨k, hk, rfl, hrel⟩ := hrel
    clear H0
    by_cases hlt : k < n
    · obtain ⟨hv1, hO2⟩ := hrel.out
      have hll := HN.out
      have hkl : k < l.length := by omega
      obtain ⟨ad', had, _, _, hcell⟩ := HR.out.at hkl
      obtain ⟨V, hV⟩ : ∃ V, V = le (l.take k) := ⟨_, rfl⟩
      obtain ⟨cb, hcb⟩ : ∃ cb, cb = l[k] := ⟨_, rfl⟩
      rw [← hcb] at hcell
      injection had with had
      subst had
      have hY := or_byte V k cb (by omega) (by
        have := le_lt (l.take k)
        rw [List.length_take, Nat.min_eq_left (by omega), ← hV] at this
        exact this)
      have hw1 : ad.block < w1.heap.size := World.block_lt_of_cell? w1 (ad.add k) hcell |> fun h => by rw [addr_block] at h; exact h
      have hcw : wr.cell? (ad.add k) = some (.int .u8 (cb.toNat : Int)) := (hO2.cell (by rw [addr_block]; exact hw1) (by rw [addr_block]; omega)).trans hcell
      rw [← hV] at hv1
      have hvc := hv1.cell 0
      have hvf := hv1.frozen 0
      simp at hvc
      have R : Hid (TakeInv vb l w1 (k + 1) ((wr.setCell ⟨vb, 0, none⟩ (.int .u64 ((V + cb.toNat * 256 ^ k : Nat) : Int))).drew)) := by
        refine ⟨?_, (hO2.setCell (p := ⟨vb, 0, none⟩) (fun _ => rfl) _).drew⟩
        have e1 : le (l.take (k + 1)) = V + cb.toNat * 256 ^ k := by
          rw [List.take_succ_eq_append_getElem hkl, le_snoc, List.length_take, Nat.min_eq_left (by omega), ← hV, ← hcb]
        rw [e1]
        exact (hv1.set 0 _).drew
      obtain ⟨V', hV'⟩ : ∃ V', V' = V + cb.toNat * 256 ^ k := ⟨_, rfl⟩
      rw [← hV'] at hY R
      have i0 : (0 : Int) ≤ (k : Int) := Int.natCast_nonneg _
      have i1 : (k : Int) < (n : Int) := by omega
      have hwu : IntKind.u64.wrap (cb.toNat : Int) = (cb.toNat : Int) := IntWalk.u64_in _ (by have := cb.toNat_lt; omega)
      clear hv1 hO2 hrel hcell hV hcb hV' hkl hw1 hll HR HI1 HO1 HL HN
      go_wp2
      go_region
      all_goals
        go_wp2
        go_roundw
        case rel => exact ⟨k + 1, by omega, by go_num, R⟩
        case measure => simp [intOf]; omega
    · have : k = n := by omega
      subst this
      obtain ⟨hv1, hO2⟩ := hrel.out
      have R : Hid (TookStep w lo g vb 28 (fun _ u => u = .int .u64 (le (bs.take k))) (bs.drop k) (.returned (.tuple #[])) wr) := by
        refine ⟨_, rfl, hv1, ?_, HI1.out.only hO2 (fun i _ hi h => by omega), ?_⟩
        · rw [List.take_of_length_le (i := k) (l := l) (by rw [HN.out]; omega), HL.out]
        · exact (HO1.out.mono fun i _ h => .inl h).trans hO2 (fun i _ h => .inr h)
      clear hv1 hO2 hrel HR HI1 HO1 HL HN
      go_wp2
      go_end0
      exact R.out
end Go.Proofs.YtepiifbleoimkaaGreatDoor
namespace Go.Proofs.YtepiifbleoimkaaGreatDoor
open Go.RowKit

set_option maxHeartbeats 400000 in
theorem raw1_arg (nb ib vb : Nat) (n : Int) (w : World) (hn : Has w nb 3 #[.int .i64 n]) (h : n < 0) :
    Calls Tryz.prog 88 #[.pointer (some ⟨nb, 0, none⟩), .pointer (some ⟨ib, 0, none⟩), .pointer (some ⟨vb, 0, none⟩)] w fun e w' => e = .panicked [{ v := .iface 35 (.int .i64 1), recovered := false }] ∧ w = w' := by
  have hc := hn.cell 0
  simp at hc
  have hd : decide (0 ≤ n) = false := decide_eq_false (by omega)
  clear hn
  go_enter Tryz.func88, Tryz.ntmps88
  go_wp2_with fail
  refine (must_no 1 w).mono ?_
  rintro e w' ⟨rfl, rfl⟩
  go_wp2
  exact ⟨rfl, rfl, rfl⟩

set_option maxHeartbeats 400000 in
theorem raw1_short (lo g nb ib vb : Nat) (n : Int) (bs : List UInt8) (w : World) (hn : Has w nb 3 #[.int .i64 n]) (hi : Has w ib 56 #[.pointer (some ⟨g, 0, none⟩)]) (hI : InAt w lo g bs 0)
    (h1 : 0 ≤ n) (h3 : (bs.length : Int) < n) :
    Calls Tryz.prog 88 #[.pointer (some ⟨nb, 0, none⟩), .pointer (some ⟨ib, 0, none⟩), .pointer (some ⟨vb, 0, none⟩)] w fun e w' => e = .panicked [{ v := .iface 35 (.int .i64 4), recovered := false }] ∧ w = w' := by
  have hc := hn.cell 0
  have hc2 := hi.cell 0
  simp at hc hc2
  have H := Lib.hid hI
  have hd : decide (0 ≤ n) = true := decide_eq_true (by omega)
  clear hn hi hI
  go_enter Tryz.func88, Tryz.ntmps88
  go_wp2_with fail
  refine (must_yes 1 w).mono ?_
  rintro e w' ⟨rfl, rfl⟩
  go_wp2_with fail
  refine (next_no lo g bs n w H.out h3).mono ?_
  rintro e w' ⟨rfl, rfl⟩
  go_wp2
  exact ⟨rfl, rfl, rfl⟩

set_option maxHeartbeats 1000000 in
theorem raw1_ok (lo g nb ib vb n : Nat) (bs : List UInt8) (w : World) (hn : Has w nb 3 #[.int .i64 (n : Int)]) (hi : Has w ib 56 #[.pointer (some ⟨g, 0, none⟩)]) (hv : Has w vb 22 #[.slice none 0 0]) (hI : InAt w lo g bs 0)
    (hgv : g < vb) (h3 : n ≤ bs.length) (hb : bs.length ≤ 140737488355328) :
    Calls Tryz.prog 88 #[.pointer (some ⟨nb, 0, none⟩), .pointer (some ⟨ib, 0, none⟩), .pointer (some ⟨vb, 0, none⟩)] w
      (TookStep w lo g vb 22 (fun w' u => w'.ownsRow w.heap.size 5 1 u (bs.take n).length (b8s (bs.take n))) (bs.drop n)) := by
  have hc := hn.cell 0
  have hc2 := hi.cell 0
  simp at hc hc2
  have H := Lib.hid hI
  have HV := Lib.hid hv
  have hd : decide (0 ≤ (n : Int)) = true := decide_eq_true (by omega)
  clear hn hi hI hv
  go_enter Tryz.func88, Tryz.ntmps88
  go_wp2_with fail
  refine (must_yes 1 w).mono ?_
  rintro e w' ⟨rfl, rfl⟩
  go_wp2_with fail
  refine (next_yes lo g bs n w H.out h3).mono ?_
  rintro e w1 ⟨v, rfl, hs, hI1, hO⟩
  have hsz := hO.size
  have hg1 := hI1.lt
  have H1 := Lib.hid (clone_any v (bs.take n) lo g w1 hs (by omega) (by rw [List.length_take]; omega))
  have H2 := Lib.hid hI1
  have H3 := Lib.hid hO
  clear hs hI1 hO hc hc2
  go_wp2_with fail
  refine H1.out.mono ?_
  rintro e w2 ⟨u, rfl, k1, k2⟩
  have k3 := (H3.out.trans (Only.of_below k2) (fun i hi h => by omega))
  have hv2 := HV.out.only k3 (by omega)
  have hvl := HV.out.lt
  have R : Hid (TookStep w lo g vb 22 (fun w' u => w'.ownsRow w.heap.size 5 1 u (bs.take n).length (b8s (bs.take n))) (bs.drop n) (.returned (.tuple #[])) (w2.setCell ⟨vb, 0, none⟩ u)) := by
    have k4 : Only (fun i => i = vb) w2 (w2.setCell ⟨vb, 0, none⟩ u) := (Only.refl (fun i => i = vb) w2).setCell (p := ⟨vb, 0, none⟩) (fun _ => rfl) _
    refine ⟨u, rfl, hv2.set 0 u, ?_, ?_, ?_⟩
    · refine owns_only (owns_base k1 hsz) k4 ?_
      rintro i hi rfl
      have := (k1.lt _ hi).1
      omega
    · exact (H2.out.only (Only.of_below k2) (fun i _ hi h => by omega)).only k4 (fun i _ hi h => by omega)
    · exact (k3.mono fun i _ h => .inl h).trans k4 (fun i _ h => .inr h)
  have hc3 := hv2.cell 0
  have hf3 := hv2.frozen 0
  simp at hc3
  obtain ⟨A, c, rfl, _⟩ := owns_slice k1
  clear k1 k2 k3 hv2 H1 H2 H3 HV H
  go_wp2
  go_end0
  have r := R.out
  rw [List.length_take, Nat.min_eq_left h3] at r ⊢
  exact r
end Go.Proofs.YtepiifbleoimkaaGreatDoor
namespace Go.Proofs.YtepiifbleoimkaaGreatDoor
open Go.RowKit

set_option maxHeartbeats 400000 in
theorem guard_ok (lo gI : Nat) (bs : List UInt8) (w : World) (g : Nat) (lb : Array Value) (eg : ∀ args w, (callFunc g args).run Tryz.prog w = .ok (.enter g args) w) (R : World → Prop) (h : InAt w lo gI bs 0)
    (hR : Calls Tryz.prog g lb (w.alloc errBox) fun e w' => e = .returned (.tuple #[]) ∧ Has w' w.heap.size 35 #[.int .i64 0] ∧ R w') :
    Calls Tryz.prog 60 #[.pointer (some ⟨gI, 0, none⟩), .func (.func g) #[] lb] w fun e w' => e = .returned (.tuple #[]) ∧ R w' := by
  obtain ⟨A, c, h1, h2, h3, h4, h5⟩ := h
  have hc := h1.cell 1
  simp at hc
  have H := Lib.hid (caught_ok g lb eg w R hR)
  clear h1 h4 hR eg
  go_enter Tryz.func60, Tryz.ntmps60
  go_wp2_with fail
  refine H.out.mono ?_
  rintro e w' ⟨rfl, hr⟩
  have HR := Lib.hid hr
  clear hr H
  go_wp2
  go_end0
  exact ⟨rfl, HR.out⟩

/-- What guard leaves where the function panics. -/
def failed (w : World) (gI : Nat) (er : Int) : World :=
  (((w.alloc errBox).setCell ⟨w.heap.size, 0, none⟩ (.int .i64 er)).setCell ⟨gI, 0, none⟩ (.slice none 0 0)).setCell ⟨gI, 1, none⟩ (.int .i64 er)

set_option maxHeartbeats 400000 in
theorem guard_panic (lo gI : Nat) (bs : List UInt8) (w : World) (g : Nat) (lb : Array Value) (eg : ∀ args w, (callFunc g args).run Tryz.prog w = .ok (.enter g args) w) (er : Int) (h : InAt w lo gI bs 0) (he : er ≠ 0)
    (hR : Calls Tryz.prog g lb (w.alloc errBox) fun e w' => e = .panicked [{ v := .iface 35 (.int .i64 er), recovered := false }] ∧ w.alloc errBox = w') :
    Calls Tryz.prog 60 #[.pointer (some ⟨gI, 0, none⟩), .func (.func g) #[] lb] w fun e w' => e = .returned (.tuple #[]) ∧ failed w gI er = w' := by
  obtain ⟨A, c, h1, h2, h3, h4, h5⟩ := h
  have hc := h1.cell 1
  simp at hc
  have hlt := h1.lt
  have H := Lib.hid (caught_panic g lb eg w er (fun w' => w.alloc errBox = w') (hR.mono fun e w' hh => ⟨hh.1, hh.2 ▸ Has.new _ _ _, hh.2⟩))
  have H1 := Lib.hid h1
  clear h1 h4 hR eg
  have hb : (er == 0) = false := by simpa using he
  have hne : (er != 0) = true := by simpa using he
  have hd : decide (er = 0) = false := decide_eq_false he
  go_enter Tryz.func60, Tryz.ntmps60
  go_wp2_with fail
  refine H.out.mono ?_
  rintro e w' ⟨rfl, w1, hb1, rfl, hw⟩
  obtain ⟨W, hW⟩ : ∃ W, W = (w.alloc errBox).setCell ⟨w.heap.size, 0, none⟩ (.int .i64 er) := ⟨_, rfl⟩
  have hg : Has W gI 87 #[.slice A bs.length c, .int .i64 0] := by
    rw [hW]
    exact (H1.out.alloc _).far (by show gI ≠ w.heap.size; omega) _
  have R : Hid (failed w gI er = (W.setCell ⟨gI, 0, none⟩ (.slice none 0 0)).setCell ⟨gI, 1, none⟩ (.int .i64 er)) := by
    rw [hW]; exact rfl
  rw [← hW] at hw
  subst hw
  have c0 := hg.cell 0
  have c1 := hg.cell 1
  have f0 := hg.frozen 0
  have f1 := hg.frozen 1
  simp at c0 c1
  clear hg hb1 H H1 hW hc
  go_wp2
  go_end0
  exact ⟨rfl, R.out⟩

set_option maxHeartbeats 400000 in
theorem guard_skip (lo gI : Nat) (bs : List UInt8) (er : Int) (w : World) (f : Value) (h : InAt w lo gI bs er) (he : er ≠ 0) :
    Calls Tryz.prog 60 #[.pointer (some ⟨gI, 0, none⟩), f] w fun e w' => e = .returned (.tuple #[]) ∧ w = w' := by
  obtain ⟨A, c, h1, h2, h3, h4, h5⟩ := h
  have hc := h1.cell 1
  simp at hc
  have hb : (er == 0) = false := by simpa using he
  have hne : (er != 0) = true := by simpa using he
  clear h1 h4 he
  go_enter Tryz.func60, Tryz.ntmps60
  go_wp2
  first | go_end0 | refine bodyPost_ret (results_none rfl _ _ _) rfl ?_
  exact ⟨rfl, rfl⟩

theorem Tryz.enterTake : ∀ args w, (callFunc 61 args).run Tryz.prog w = .ok (.enter 61 args) w := enters_of Tryz.func61 (by kernel_rfl) rfl
theorem Tryz.enterRaw : ∀ args w, (callFunc 88 args).run Tryz.prog w = .ok (.enter 88 args) w := enters_of Tryz.func88 (by kernel_rfl) rfl

/-- What Take(n) answers, and the In behind it. -/
def takeSt (n : Int) (bs : List UInt8) (er : Int) : Nat × List UInt8 × Int :=
  if er ≠ 0 then (0, bs, er) else if n < 1 ∨ 8 < n then (0, [], 1) else if (bs.length : Int) < n then (0, [], 4) else (le (bs.take n.toNat), bs.drop n.toNat, 0)
/-- What Raw(n) answers, and the In behind it. -/
def rawSt (n : Int) (bs : List UInt8) (er : Int) : List UInt8 × List UInt8 × Int :=
  if er ≠ 0 then ([], bs, er) else if n < 0 then ([], [], 1) else if (bs.length : Int) < n then ([], [], 4) else (bs.take n.toNat, bs.drop n.toNat, 0)

def GTake (W : World) (lo g vb : Nat) (st : Nat × List UInt8 × Int) (e : Ending) (w' : World) : Prop :=
  e = .returned (.tuple #[]) ∧ Has w' vb 28 #[.int .u64 st.1] ∧ InAt w' lo g st.2.1 st.2.2 ∧ Only (fun i => i = g ∨ i = vb) W w'
def GRaw (W : World) (lo g vb : Nat) (st : List UInt8 × List UInt8 × Int) (e : Ending) (w' : World) : Prop :=
  ∃ u, e = .returned (.tuple #[]) ∧ Has w' vb 22 #[u] ∧ w'.ownsRow W.heap.size 5 1 u st.1.length (b8s st.1) ∧ InAt w' lo g st.2.1 st.2.2 ∧ Only (fun i => i = g ∨ i = vb) W w'

/-- An In that fails: its list is dropped, its error set. -/
theorem in_fails {W : World} {lo g vb : Nat} {bs : List UInt8} {er : Int} {t : TypeId} {u : Value} (hI : InAt W lo g bs 0) (hv : Has W vb t #[u]) (hgv : g < vb) :
    Has (failed W g er) vb t #[u] ∧ InAt (failed W g er) lo g [] er ∧ Only (fun i => i = g ∨ i = vb) W (failed W g er) := by
  obtain ⟨A, c, h1, h2, h3, h4, h5⟩ := hI
  have k : Only (fun i => i = g) W (failed W g er) :=
    ((((Only.refl (fun i => i = g) W).alloc errBox).setCell (p := ⟨W.heap.size, 0, none⟩) (fun h => absurd h (Nat.lt_irrefl _)) _).setCell (p := ⟨g, 0, none⟩) (fun _ => rfl) _).setCell (p := ⟨g, 1, none⟩) (fun _ => rfl) _
  have hlt := h1.lt
  have hg := (h1.alloc errBox).far (p := ⟨W.heap.size, 0, none⟩) (by show g ≠ W.heap.size; omega) (.int .i64 er)
  exact ⟨hv.only k (by omega), ⟨none, 0, (hg.set 0 _).set 1 _, by simp, by simp, Rd.empty _ _ _ _, h5⟩, k.mono fun i _ h => .inl h⟩

theorem guard_take (lo g nb ib vb : Nat) (n : Int) (bs : List UInt8) (er : Int) (W : World) (hn : Has W nb 3 #[.int .i64 n]) (hi : Has W ib 56 #[.pointer (some ⟨g, 0, none⟩)])
    (hv : Has W vb 28 #[.int .u64 0]) (hI : InAt W lo g bs er) (hgv : g < vb) :
    Calls Tryz.prog 60 #[.pointer (some ⟨g, 0, none⟩), .func (Fn.func 61) #[] #[.pointer (some ⟨nb, 0, none⟩), .pointer (some ⟨ib, 0, none⟩), .pointer (some ⟨vb, 0, none⟩)]] W (GTake W lo g vb (takeSt n bs er)) := by
  have k0 : ∀ S o, Only S W (W.alloc o) := fun S o => (Only.refl S W).alloc o
  by_cases he : er ≠ 0
  · refine (guard_skip lo g bs er W _ hI he).mono ?_
    rintro e w' ⟨rfl, rfl⟩
    rw [takeSt, if_pos he]
    exact ⟨rfl, hv, hI, Only.refl _ _⟩
  · have he : er = 0 := by omega
    subst he
    have hI1 := hI.only (k0 (fun _ => False) errBox) (fun _ _ _ h => h)
    by_cases h1 : n < 1 ∨ 8 < n
    · refine (guard_panic lo g bs W _ _ Tryz.enterTake 1 hI (by decide) (take1_arg nb ib vb n _ (hn.alloc _) h1)).mono ?_
      rintro e w' ⟨rfl, rfl⟩
      rw [takeSt, if_neg (by simp), if_pos h1]
      exact ⟨rfl, in_fails hI hv hgv⟩
    · by_cases h2 : (bs.length : Int) < n
      · refine (guard_panic lo g bs W _ _ Tryz.enterTake 4 hI (by decide) (take1_short lo g nb ib vb n bs _ (hn.alloc _) (hi.alloc _) hI1 (by omega) (by omega) h2)).mono ?_
        rintro e w' ⟨rfl, rfl⟩
        rw [takeSt, if_neg (by simp), if_neg h1, if_pos h2]
        exact ⟨rfl, in_fails hI hv hgv⟩
      · obtain ⟨m, rfl⟩ : ∃ m : Nat, n = (m : Int) := ⟨n.toNat, by omega⟩
        have hvl := hv.lt
        refine (guard_ok lo g bs W _ _ Tryz.enterTake (fun w' => GTake W lo g vb (takeSt (m : Int) bs 0) (.returned (.tuple #[])) w') hI ((take1_ok lo g nb ib vb m bs _ (hn.alloc _) (hi.alloc _) (hv.alloc _) hI1 hgv (by omega) (by omega) (by omega)).mono ?_)).mono ?_
        · rintro e w' ⟨u, rfl, q1, rfl, q3, q4⟩
          refine ⟨rfl, (Has.new W _ _).only q4 (by omega), rfl, ?_, ?_, (k0 _ _).trans q4 (fun _ _ h => h)⟩
          · rw [takeSt, if_neg (by simp), if_neg h1, if_neg h2]
            exact q1
          · rw [takeSt, if_neg (by simp), if_neg h1, if_neg h2]
            exact q3
        · rintro e w' ⟨rfl, h⟩
          exact h

theorem guard_raw (lo g nb ib vb : Nat) (n : Int) (bs : List UInt8) (er : Int) (W : World) (hn : Has W nb 3 #[.int .i64 n]) (hi : Has W ib 56 #[.pointer (some ⟨g, 0, none⟩)])
    (hv : Has W vb 22 #[.slice none 0 0]) (hI : InAt W lo g bs er) (hgv : g < vb) (hb : bs.length ≤ 140737488355328) :
    Calls Tryz.prog 60 #[.pointer (some ⟨g, 0, none⟩), .func (Fn.func 88) #[] #[.pointer (some ⟨nb, 0, none⟩), .pointer (some ⟨ib, 0, none⟩), .pointer (some ⟨vb, 0, none⟩)]] W (GRaw W lo g vb (rawSt n bs er)) := by
  have k0 : ∀ S o, Only S W (W.alloc o) := fun S o => (Only.refl S W).alloc o
  by_cases he : er ≠ 0
  · refine (guard_skip lo g bs er W _ hI he).mono ?_
    rintro e w' ⟨rfl, rfl⟩
    rw [rawSt, if_pos he]
    exact ⟨_, rfl, hv, World.ownsRow_nil _ _ _ _, hI, Only.refl _ _⟩
  · have he : er = 0 := by omega
    subst he
    have hI1 := hI.only (k0 (fun _ => False) errBox) (fun _ _ _ h => h)
    by_cases h1 : n < 0
    · refine (guard_panic lo g bs W _ _ Tryz.enterRaw 1 hI (by decide) (raw1_arg nb ib vb n _ (hn.alloc _) h1)).mono ?_
      rintro e w' ⟨rfl, rfl⟩
      rw [rawSt, if_neg (by simp), if_pos h1]
      obtain ⟨q1, q2, q3⟩ := in_fails (er := 1) hI hv hgv
      exact ⟨_, rfl, q1, World.ownsRow_nil _ _ _ _, q2, q3⟩
    · by_cases h2 : (bs.length : Int) < n
      · refine (guard_panic lo g bs W _ _ Tryz.enterRaw 4 hI (by decide) (raw1_short lo g nb ib vb n bs _ (hn.alloc _) (hi.alloc _) hI1 (by omega) h2)).mono ?_
        rintro e w' ⟨rfl, rfl⟩
        rw [rawSt, if_neg (by simp), if_neg h1, if_pos h2]
        obtain ⟨q1, q2, q3⟩ := in_fails (er := 4) hI hv hgv
        exact ⟨_, rfl, q1, World.ownsRow_nil _ _ _ _, q2, q3⟩
      · obtain ⟨m, rfl⟩ : ∃ m : Nat, n = (m : Int) := ⟨n.toNat, by omega⟩
        have hvl := hv.lt
        refine (guard_ok lo g bs W _ _ Tryz.enterRaw (fun w' => GRaw W lo g vb (rawSt (m : Int) bs 0) (.returned (.tuple #[])) w') hI ((raw1_ok lo g nb ib vb m bs _ (hn.alloc _) (hi.alloc _) (hv.alloc _) hI1 hgv (by omega) hb).mono ?_)).mono ?_
        · rintro e w' ⟨u, rfl, q1, q2, q3, q4⟩
          refine ⟨rfl, (Has.new W _ _).only q4 (by omega), u, rfl, q1, ?_, ?_, (k0 _ _).trans q4 (fun _ _ h => h)⟩
          · rw [rawSt, if_neg (by simp), if_neg h1, if_neg h2]
            exact owns_base q2 (by simp)
          · rw [rawSt, if_neg (by simp), if_neg h1, if_neg h2]
            exact q3
        · rintro e w' ⟨rfl, h⟩
          exact h

def TakeStep (w : World) (lo g : Nat) (st : Nat × List UInt8 × Int) (e : Ending) (w' : World) : Prop :=
  e = .returned (.int .u64 st.1) ∧ InAt w' lo g st.2.1 st.2.2 ∧ Only (fun i => i = g) w w'
def RawStep (w : World) (lo g : Nat) (st : List UInt8 × List UInt8 × Int) (e : Ending) (w' : World) : Prop :=
  ∃ u, e = .returned u ∧ w'.ownsRow w.heap.size 5 1 u st.1.length (b8s st.1) ∧ InAt w' lo g st.2.1 st.2.2 ∧ Only (fun i => i = g) w w'

/-- The three variables that Take and Raw lay. -/
theorem laid3 {w : World} {lo g : Nat} {bs : List UInt8} {er n : Int} {t : TypeId} {z : Value} (hI : InAt w lo g bs er) :
    let W := ((w.alloc (.cells #[.pointer (some ⟨g, 0, none⟩)] 56)).alloc (.cells #[.int .i64 n] 3)).alloc (.cells #[z] t)
    Has W (w.heap.size + 1) 3 #[.int .i64 n] ∧ Has W w.heap.size 56 #[.pointer (some ⟨g, 0, none⟩)] ∧ Has W (w.heap.size + 2) t #[z] ∧ InAt W lo g bs er ∧ Only (fun _ => False) w W ∧ W.heap.size = w.heap.size + 3 := by
  intro W
  have h1 := Has.new w 56 #[.pointer (some ⟨g, 0, none⟩)]
  have h2 := Has.new (w.alloc (.cells #[.pointer (some ⟨g, 0, none⟩)] 56)) 3 #[.int .i64 n]
  have h3 := Has.new ((w.alloc (.cells #[.pointer (some ⟨g, 0, none⟩)] 56)).alloc (.cells #[.int .i64 n] 3)) t #[z]
  have k : Only (fun _ => False) w W := (((Only.refl _ w).alloc _).alloc _).alloc _
  simp only [World.size_alloc] at h2 h3
  exact ⟨h2.alloc _, (h1.alloc _).alloc _, h3, hI.only k (fun _ _ _ h => h), k, by simp [W]⟩

set_option maxHeartbeats 400000 in
theorem take_any (lo g : Nat) (n : Int) (bs : List UInt8) (er : Int) (w : World) (hI : InAt w lo g bs er) :
    Calls Tryz.prog 36 #[.pointer (some ⟨g, 0, none⟩), .int .i64 n] w (TakeStep w lo g (takeSt n bs er)) := by
  obtain ⟨a1, a2, a3, a4, a5, a6⟩ := laid3 (n := n) (t := 28) (z := .int .u64 0) hI
  have hg := hI.lt
  have H := Lib.hid (guard_take lo g _ _ _ n bs er _ a1 a2 a3 a4 (by omega))
  have H5 := Lib.hid a5
  clear a1 a2 a3 a4 a5 a6 hI
  have hmf : ∀ (fn : Fn) (first cap : Array Value) (w : World), (Instr.makeFunc fn first cap).run Tryz.prog w = .ok (.func fn first cap) w := fun _ _ _ _ => rfl
  go_enter Tryz.func36, Tryz.ntmps36
  go_wp2_with fail
  refine H.out.mono ?_
  rintro e w' ⟨rfl, b1, b2, b3⟩
  have R : Hid (TakeStep w lo g (takeSt n bs er) (.returned (.int .u64 (takeSt n bs er).1)) w') :=
    ⟨rfl, b2, (H5.out.mono fun _ _ h => h.elim).trans b3 (fun i hi h => by rcases h with h | h; exact h; omega)⟩
  have hc := b1.cell 0
  simp at hc
  obtain ⟨r, hr⟩ : ∃ r, r = (takeSt n bs er).1 := ⟨_, rfl⟩
  rw [← hr] at hc R
  clear b1 b2 b3 H H5 hr
  go_wp2
  go_ret
  exact R.out

set_option maxHeartbeats 400000 in
theorem raw_any (lo g : Nat) (n : Int) (bs : List UInt8) (er : Int) (w : World) (hI : InAt w lo g bs er) (hb : bs.length ≤ 140737488355328) :
    Calls Tryz.prog 80 #[.pointer (some ⟨g, 0, none⟩), .int .i64 n] w (RawStep w lo g (rawSt n bs er)) := by
  obtain ⟨a1, a2, a3, a4, a5, a6⟩ := laid3 (n := n) (t := 22) (z := .slice none 0 0) hI
  have hg := hI.lt
  have H := Lib.hid (guard_raw lo g _ _ _ n bs er _ a1 a2 a3 a4 (by omega) hb)
  have H5 := Lib.hid a5
  clear a1 a2 a3 a4 a5 a6 hI
  have hmf : ∀ (fn : Fn) (first cap : Array Value) (w : World), (Instr.makeFunc fn first cap).run Tryz.prog w = .ok (.func fn first cap) w := fun _ _ _ _ => rfl
  go_enter Tryz.func80, Tryz.ntmps80
  go_wp2_with fail
  refine H.out.mono ?_
  rintro e w' ⟨u, rfl, b1, b0, b2, b3⟩
  have R : Hid (RawStep w lo g (rawSt n bs er) (.returned u) w') :=
    ⟨u, rfl, owns_base b0 (by simp; omega), b2, (H5.out.mono fun _ _ h => h.elim).trans b3 (fun i hi h => by rcases h with h | h; exact h; omega)⟩
  have hc := b1.cell 0
  simp at hc
  obtain ⟨A, c, rfl, _⟩ := owns_slice b0
  obtain ⟨r, hr⟩ : ∃ r, r = (rawSt n bs er).1.length := ⟨_, rfl⟩
  rw [← hr] at hc R
  clear b1 b2 b3 b0 H H5 hr
  go_wp2
  go_ret
  exact R.out
end Go.Proofs.YtepiifbleoimkaaGreatDoor
namespace Go.Proofs.YtepiifbleoimkaaGreatDoor
open Go.RowKit

/-- What Put(n, x) adds. -/
def putI (n x : Int) : List UInt8 := if 1 ≤ n ∧ n ≤ 8 then putB n.toNat x.toNat else []
theorem putI_length (n x : Int) : (putI n x).length ≤ 8 := by
  unfold putI
  split
  · rw [putB_length]; omega
  · simp

theorem put_any (B g : Nat) (v : Value) (bs : List UInt8) (n x : Int) (w : World) (h : OutAt w B g v bs) (hx0 : 0 ≤ x) (hx : x < 18446744073709551616) (hl : bs.length ≤ 140737488355320) :
    Calls Tryz.prog 30 #[.pointer (some ⟨g, 0, none⟩), .int .i64 n, .int .u64 x] w (OutStep w B g v (bs ++ putI n x)) := by
  by_cases hn : 1 ≤ n ∧ n ≤ 8
  · obtain ⟨m, rfl⟩ : ∃ m : Nat, n = (m : Int) := ⟨n.toNat, by omega⟩
    obtain ⟨y, rfl⟩ : ∃ y : Nat, x = (y : Int) := ⟨x.toNat, by omega⟩
    have e : putI (m : Int) (y : Int) = putB m y := by rw [putI, if_pos hn]; simp
    rw [e]
    exact put_yes B g v bs m y w h (by omega) (by omega) (by omega) (by omega)
  · have e : putI n x = [] := by rw [putI, if_neg hn]
    rw [e, List.append_nil]
    exact put_no B g v bs n x w h (by omega)

/-- The text that bytes make. -/
def strOf (l : List UInt8) : ByteArray := ⟨l.toArray⟩
theorem strOf_toList (l : List UInt8) : (strOf l).data.toList = l := rfl
theorem strOf_list (l : List UInt8) : (strOf l).toList = l := Go.ByteArray.toList_mk l
theorem strOf_inj {l m : List UInt8} (h : strOf l = strOf m) : l = m := by
  have := congrArg (fun s => s.data.toList) h
  simpa [strOf] using this

theorem run_str (v : Value) (bs : List UInt8) (lo hi : Nat) (w : World) (h : SlIs w lo hi v bs) : (convert 22 9 v).run Tryz.prog w = .ok (.string (strOf bs)) w := by
  obtain ⟨A, c, rfl, _, _, hr⟩ := h
  cases A with
  | none =>
    have hb : bs = [] := by
      rcases Nat.eq_zero_or_pos bs.length with h0 | h0
      · exact List.eq_nil_of_length_eq_zero h0
      · obtain ⟨ad, h, _⟩ := hr h0
        cases h
    subst hb
    exact run_convert_bytes_nil w 22 5 Tryz.underlying22 Tryz.underlying5 _ c 9 Tryz.underlying9
  | some ad =>
    refine run_convert_bytes_back w 22 9 5 ad c bs Tryz.underlying22 Tryz.underlying5 Tryz.underlying9 ?_
    intro j hj
    obtain ⟨ad', h, _, _, hc⟩ := hr (by omega)
    injection h with h
    subst h
    exact hc j _ (b8s_get hj)

theorem SlIs.alloc {w : World} {lo hi : Nat} {v : Value} {bs : List UInt8} {o : Obj} (h : SlIs w lo hi v bs) (hh : hi ≤ w.heap.size) : SlIs (w.alloc o) lo hi v bs := by
  obtain ⟨A, c, e, h1, h2, h3⟩ := h
  exact ⟨A, c, e, h1, h2, h3.keep fun p _ hp => World.cell?_alloc_lt w o p (by omega)⟩
theorem SlIs.only {a b : World} {S : Nat → Prop} {lo hi : Nat} {v : Value} {bs : List UInt8} (h : SlIs a lo hi v bs) (k : Only S a b) (hh : hi ≤ a.heap.size) (hn : ∀ i, lo ≤ i → i < hi → ¬ S i) : SlIs b lo hi v bs := by
  obtain ⟨A, c, e, h1, h2, h3⟩ := h
  exact ⟨A, c, e, h1, h2, h3.only k hh hn⟩

/-- A row of bytes that was just laid, whatever its mark. -/
theorem lit_SlIs (w : World) (t : TypeId) (fr : Nat × Nat) (bs : List UInt8) (n : Nat) (hn : n = bs.length) (hm : n ≤ maxLen) :
    SlIs (w.alloc (.cells (b8s bs).toArray t fr)) w.heap.size (w.heap.size + 1) (.slice (some ⟨w.heap.size, 0, none⟩) n n) bs := by
  subst hn
  refine ⟨_, _, rfl, Nat.le_refl _, hm, fun _ => ⟨_, rfl, Nat.le_refl _, Nat.lt_succ_self _, ?_⟩⟩
  have h := World.news_of_block (B := w.heap.size) (heap_alloc_new w (.cells (b8s bs).toArray t fr))
  simpa using h
end Go.Proofs.YtepiifbleoimkaaGreatDoor
namespace Go.Proofs.YtepiifbleoimkaaGreatDoor
open Go.RowKit

/-- Put, then read: the lowest bytes. -/
theorem le_putB (n x : Nat) : le (putB n x) = x % 256 ^ n := by
  induction n with
  | zero => simp [putB, le, Nat.mod_one]
  | succ n ih =>
    rw [putB_succ, le_snoc, ih, putB_length, Nat.mod_pow_succ, Nat.shiftRight_eq_div_pow, ← pow8]
    simp [UInt8.toNat_ofNat', Nat.mul_comm]

/-- The Out that each statement makes. -/
theorem new_out (w : World) : OutAt (w.alloc (.cells #[.slice none 0 0] 71)) w.heap.size w.heap.size (.slice none 0 0) [] := ⟨Has.new _ _ _, World.ownsRow_nil _ _ _ _, Nat.le_refl _⟩

theorem raw_item (bs rest : List UInt8) : rawSt (bs.length : Int) (bs ++ rest) 0 = (bs, rest, 0) := by
  rw [rawSt, if_neg (by simp), if_neg (by omega), if_neg (by rw [List.length_append]; omega)]
  simp
theorem take_item (n v : Nat) (rest : List UInt8) (h1 : 1 ≤ n) (h8 : n ≤ 8) : takeSt (n : Int) (putB n v ++ rest) 0 = (v % 256 ^ n, rest, 0) := by
  have hl := putB_length n v
  rw [takeSt, if_neg (by simp), if_neg (by omega), if_neg (by rw [List.length_append, hl]; omega), ← le_putB]
  simp only [Int.toNat_natCast]
  rw [List.take_left' hl, List.drop_left' hl]

end Go.Proofs.YtepiifbleoimkaaGreatDoor
namespace Go.Proofs.YtepiifbleoimkaaGreatDoor
open Go.RowKit
set_option maxRecDepth 100000

/-- A qid: its type, its version, its path. -/
structure Q3 where
  t : Nat
  v : Nat
  p : Nat
def Q3.val (q : Q3) : Value := .agg #[.int .u8 (q.t : Int), .int .u32 (q.v : Int), .int .u64 (q.p : Int)]
structure Q3.Ok (q : Q3) : Prop where
  t : q.t < 256
  v : q.v < 4294967296
  p : q.p < 18446744073709551616
def Q3.zero : Q3 := ⟨0, 0, 0⟩
/-- Its thirteen bytes. -/
def qidB (q : Q3) : List UInt8 := putB 1 q.t ++ (putB 4 q.v ++ putB 8 q.p)
theorem qidB_length (q : Q3) : (qidB q).length = 13 := by simp [qidB, putB_length]

theorem putI_of (n x : Nat) (h1 : 1 ≤ n) (h8 : n ≤ 8) : putI (n : Int) (x : Int) = putB n x := by rw [putI, if_pos (by omega)]; simp

/-- One adding behind another. -/
theorem outstep_join {w w1 : World} {B g : Nat} {v v1 : Value} {bs2 : List UInt8} (f1 : Only (Foot g v) w w1) (g1 : ∀ i, v1.ownBlock = some i → v.ownBlock = some i ∨ w.heap.size ≤ i)
    {e : Ending} {w2 : World} (h : OutStep w1 B g v1 bs2 e w2) : OutStep w B g v bs2 e w2 := by
  obtain ⟨v2, he, o2, f2, g2⟩ := h
  refine ⟨v2, he, o2, f1.trans f2 ?_, ?_⟩
  · intro i hi hf
    rcases hf with hf | hf
    · exact .inl hf
    · rcases g1 i hf with h | h
      · exact .inr h
      · omega
  · intro i hi
    have := f1.size
    rcases g2 i hi with h | h
    · exact g1 i h
    · exact .inr (by omega)

set_option maxHeartbeats 1000000 in
theorem qidput_any (B g : Nat) (v : Value) (bs : List UInt8) (q : Q3) (w : World) (h : OutAt w B g v bs) (hq : q.Ok) (hl : bs.length ≤ 140737488355000) :
    Calls Tryz.prog 53 #[.pointer (some ⟨g, 0, none⟩), q.val] w (OutStep w B g v (bs ++ qidB q)) := by
  obtain ⟨qt, qv, qp⟩ := q
  obtain ⟨h1, h2, h3⟩ := hq
  simp only at h1 h2 h3
  have hb : bs ++ qidB ⟨qt, qv, qp⟩ = bs ++ putI 1 (qt : Int) ++ putI 4 (qv : Int) ++ putI 8 (qp : Int) := by
    rw [show putI 1 (qt : Int) = putB 1 qt from putI_of 1 qt (by omega) (by omega), show putI 4 (qv : Int) = putB 4 qv from putI_of 4 qv (by omega) (by omega), show putI 8 (qp : Int) = putB 8 qp from putI_of 8 qp (by omega) (by omega)]
    simp [qidB]
  rw [hb]
  clear hb
  have hw1 : IntKind.u64.wrap (qt : Int) = (qt : Int) := IntWalk.u64_in _ (by omega)
  have hw2 : IntKind.u64.wrap (qv : Int) = (qv : Int) := IntWalk.u64_in _ (by omega)
  have l1 := putI_length 1 (qt : Int)
  have l2 := putI_length 4 (qv : Int)
  have hlt := h.has.lt
  have hft : ∀ i, Foot g v i → i < w.heap.size := fun i hi => (h.foot_lt hi).2
  have HB := Lib.hid (Has.new w 30 #[.int .u8 (qt : Int), .int .u32 (qv : Int), .int .u64 (qp : Int)])
  have f0 : Only (fun _ => False) w (w.alloc (.cells #[.int .u8 (qt : Int), .int .u32 (qv : Int), .int .u64 (qp : Int)] 30)) := (Only.refl _ w).alloc _
  have H0 := Lib.hid (h.only f0 (fun _ _ h => h))
  have F0 := Lib.hid (f0.mono (T := Foot g v) (fun _ _ h => h.elim))
  have HF := Lib.hid hft
  have c0 := HB.out.cell 0
  simp at c0
  unfold Q3.val
  clear h f0 hft
  go_enter Tryz.func53, Tryz.ntmps53
  go_wp2_with fail
  refine (put_any B g v bs 1 (qt : Int) _ H0.out (by omega) (by omega) (by omega)).mono ?_
  rintro e w1 ⟨v1, rfl, o1, f1, g1⟩
  have b1 := HB.out.only f1 (fun h => by have := HF.out _ h; omega)
  have c1 := b1.cell 1
  simp at c1
  have O1 := Lib.hid o1
  have B1 := Lib.hid b1
  have F1 := Lib.hid (F0.out.trans f1 (fun _ _ h => h))
  have G1 : Hid (∀ i, v1.ownBlock = some i → v.ownBlock = some i ∨ w.heap.size + 1 ≤ i) := fun i hi => by
    have := g1 i hi
    simpa using this
  clear b1 o1 f1 g1 c0 H0 F0 HB
  go_wp2_with fail
  refine (put_any B g v1 _ 4 (qv : Int) w1 O1.out (by omega) (by omega) (by rw [List.length_append]; omega)).mono ?_
  rintro e w2 ⟨v2, rfl, o2, f2, g2⟩
  have hbf : ¬ Foot g v1 w.heap.size := fun h => by
    rcases h with h | h
    · omega
    · rcases G1.out _ h with h | h
      · have := HF.out _ (.inr h); omega
      · omega
  have b2 := B1.out.only f2 hbf
  have c2 := b2.cell 2
  simp at c2
  have s1 := F1.out.size
  have S2 := Lib.hid (outstep_join F1.out (fun i hi => (G1.out i hi).imp id (fun h => by omega)) ⟨v2, rfl, o2, f2, g2⟩)
  have O2 := Lib.hid o2
  have F2 : Hid (Only (Foot g v) w w2) := by
    refine F1.out.trans f2 ?_
    intro i hi hf
    rcases hf with hf | hf
    · exact .inl hf
    · rcases G1.out i hf with h | h
      · exact .inr h
      · omega
  have G2 : Hid (∀ i, v2.ownBlock = some i → v.ownBlock = some i ∨ w.heap.size ≤ i) := fun i hi => by
    rcases g2 i hi with h | h
    · exact (G1.out i h).imp id (fun h => by omega)
    · exact .inr (by omega)
  clear b2 o2 f2 g2 c1 B1 F1 G1 O1 S2 hbf
  go_wp2_with fail
  refine (put_any B g v2 _ 8 (qp : Int) w2 O2.out (by omega) (by omega) (by rw [List.length_append, List.length_append]; omega)).mono ?_
  intro e w3 h3
  have R := Lib.hid (outstep_join F2.out G2.out h3)
  obtain ⟨v3, rfl, _⟩ := h3
  clear O2 F2 G2 HF c2
  go_wp2
  go_end0
  exact R.out

/-- What Take tells of a qid's bytes, and the In behind it. -/
def qTake (bs : List UInt8) (er : Int) : Q3 × List UInt8 × Int :=
  let a := takeSt 1 bs er
  let b := takeSt 4 a.2.1 a.2.2
  let c := takeSt 8 b.2.1 b.2.2
  (if c.2.2 = 0 then ⟨a.1, b.1, c.1⟩ else Q3.zero, c.2.1, c.2.2)

theorem takeSt_lt (n : Nat) (bs : List UInt8) (er : Int) : (takeSt (n : Int) bs er).1 < 256 ^ n := by
  have h0 : 0 < 256 ^ n := Nat.pow_pos (by omega)
  rw [takeSt]
  split
  · exact h0
  · split
    · exact h0
    · split
      · exact h0
      · have h1 := le_lt (bs.take n)
        rw [List.length_take, Nat.min_eq_left (by omega)] at h1
        simpa using h1

theorem qTake_item (q : Q3) (rest : List UInt8) (h : q.Ok) : qTake (qidB q ++ rest) 0 = (q, rest, 0) := by
  obtain ⟨t, v, p⟩ := q
  obtain ⟨h1, h2, h3⟩ := h
  simp only at h1 h2 h3
  have a := take_item 1 t (putB 4 v ++ putB 8 p ++ rest) (by omega) (by omega)
  have b := take_item 4 v (putB 8 p ++ rest) (by omega) (by omega)
  have c := take_item 8 p rest (by omega) (by omega)
  rw [Nat.mod_eq_of_lt (by simpa using h1)] at a
  rw [Nat.mod_eq_of_lt (by simpa using h2)] at b
  rw [Nat.mod_eq_of_lt (by simpa using h3)] at c
  simp only [List.append_assoc] at a b c
  simp only [qTake, qidB, List.append_assoc]
  rw [show takeSt 1 (putB 1 t ++ (putB 4 v ++ (putB 8 p ++ rest))) 0 = _ from a]
  simp only
  rw [show takeSt 4 (putB 4 v ++ (putB 8 p ++ rest)) 0 = _ from b]
  simp only
  rw [show takeSt 8 (putB 8 p ++ rest) 0 = _ from c]
  simp

theorem takeSt_err (n : Int) (bs : List UInt8) (er : Int) (h : er ≠ 0) : takeSt n bs er = (0, bs, er) := by rw [takeSt, if_pos h]
theorem takeSt_short (n : Int) (bs : List UInt8) (h1 : 1 ≤ n) (h8 : n ≤ 8) (h : (bs.length : Int) < n) : takeSt n bs 0 = (0, [], 4) := by
  rw [takeSt, if_neg (by simp), if_neg (by omega), if_pos h]
theorem takeSt_long (n : Int) (bs : List UInt8) (h1 : 1 ≤ n) (h8 : n ≤ 8) (h : n ≤ (bs.length : Int)) : takeSt n bs 0 = (le (bs.take n.toNat), bs.drop n.toNat, 0) := by
  rw [takeSt, if_neg (by simp), if_neg (by omega), if_neg (by omega)]

/-- Bytes that end within a qid: none of it. -/
theorem qTake_short (bs : List UInt8) (h : bs.length < 13) : (qTake bs 0).1 = Q3.zero ∧ (qTake bs 0).2.2 = 4 := by
  by_cases h1 : bs.length < 1
  · simp [qTake, takeSt_short 1 bs (by omega) (by omega) (by omega), takeSt_err]
  · by_cases h4 : bs.length < 5
    · have e1 := takeSt_long 1 bs (by omega) (by omega) (by omega)
      have e2 := takeSt_short 4 (bs.drop 1) (by omega) (by omega) (by rw [List.length_drop]; omega)
      have e3 := takeSt_err 8 [] 4 (by decide)
      have e0 : qTake bs 0 = (Q3.zero, [], 4) := by
        simp only [qTake, e1]
        rw [show List.drop (Int.toNat 1) bs = bs.drop 1 from rfl, e2]
        simp only
        rw [e3]
        simp
      rw [e0]
      exact ⟨rfl, rfl⟩
    · have e1 := takeSt_long 1 bs (by omega) (by omega) (by omega)
      have e2 := takeSt_long 4 (bs.drop 1) (by omega) (by omega) (by rw [List.length_drop]; omega)
      have e3 := takeSt_short 8 ((bs.drop 1).drop 4) (by omega) (by omega) (by rw [List.length_drop, List.length_drop]; omega)
      have e0 : qTake bs 0 = (Q3.zero, [], 4) := by
        simp only [qTake, e1]
        rw [show List.drop (Int.toNat 1) bs = bs.drop 1 from rfl, e2]
        simp only
        rw [show List.drop (Int.toNat 4) (bs.drop 1) = (bs.drop 1).drop 4 from rfl, e3]
        simp
      rw [e0]
      exact ⟨rfl, rfl⟩

/-- A variable of three cells, each written. -/
theorem has_set3 {w : World} {g : Nat} {t : TypeId} {x0 x1 x2 : Value} (h : Has w g t #[x0, x1, x2]) (y0 y1 y2 : Value) :
    Has (((w.setCell ⟨g, 0, none⟩ y0).setCell ⟨g, 1, none⟩ y1).setCell ⟨g, 2, none⟩ y2) g t #[y0, y1, y2] := ((h.set 0 y0).set 1 y1).set 2 y2
theorem Only.set3 {S : Nat → Prop} {a b : World} (h : Only S a b) {g : Nat} (hg : a.heap.size ≤ g) (y0 y1 y2 : Value) :
    Only S a (((b.setCell ⟨g, 0, none⟩ y0).setCell ⟨g, 1, none⟩ y1).setCell ⟨g, 2, none⟩ y2) :=
  ((h.setCell (p := ⟨g, 0, none⟩) (fun h => by simp at h; omega) y0).setCell (p := ⟨g, 1, none⟩) (fun h => by simp at h; omega) y1).setCell (p := ⟨g, 2, none⟩) (fun h => by simp at h; omega) y2
theorem Tryz.qidSize : (Tryz.prog.info? 30).map (·.size) = some 3 := by kernel_rfl

/-- What Take of a qid leaves. -/
def QTakeStep (w : World) (lo g : Nat) (st : Q3 × List UInt8 × Int) (e : Ending) (w' : World) : Prop :=
  e = .returned st.1.val ∧ InAt w' lo g st.2.1 st.2.2 ∧ Only (fun i => i = g) w w'

set_option maxHeartbeats 1000000 in
theorem qidtake_any (lo g : Nat) (bs : List UInt8) (er : Int) (w : World) (hI : InAt w lo g bs er) :
    Calls Tryz.prog 65 #[.pointer (some ⟨g, 0, none⟩)] w (QTakeStep w lo g (qTake bs er)) := by
  have hlt := hI.lt
  have z0 : Only (fun _ => False) w (w.alloc (.cells #[.int .u8 0, .int .u32 0, .int .u64 0] 30)) := (Only.refl _ w).alloc _
  have I0 := Lib.hid (hI.only z0 (fun _ _ _ h => h))
  have F0 := Lib.hid (z0.mono (T := fun i => i = g) (fun _ _ h => h.elim))
  have B0 := Lib.hid (Has.new w 30 #[.int .u8 0, .int .u32 0, .int .u64 0])
  obtain ⟨S, hS⟩ : ∃ S, S = qTake bs er := ⟨_, rfl⟩
  rw [← hS]
  simp only [qTake] at hS
  have t1 := takeSt_lt 1 bs er
  obtain ⟨a, ha⟩ : ∃ a, a = takeSt 1 bs er := ⟨_, rfl⟩
  rw [show takeSt ((1 : Nat) : Int) bs er = a from ha.symm] at t1
  rw [← ha] at hS
  have t2 := takeSt_lt 4 a.2.1 a.2.2
  obtain ⟨b, hb⟩ : ∃ b, b = takeSt 4 a.2.1 a.2.2 := ⟨_, rfl⟩
  rw [show takeSt ((4 : Nat) : Int) a.2.1 a.2.2 = b from hb.symm] at t2
  rw [← hb] at hS
  have t3 := takeSt_lt 8 b.2.1 b.2.2
  obtain ⟨c, hc⟩ : ∃ c, c = takeSt 8 b.2.1 b.2.2 := ⟨_, rfl⟩
  rw [show takeSt ((8 : Nat) : Int) b.2.1 b.2.2 = c from hc.symm] at t3
  rw [← hc] at hS
  obtain ⟨a1, a2, a3⟩ := a
  obtain ⟨b1, b2, b3⟩ := b
  obtain ⟨c1, c2, c3⟩ := c
  simp only at t1 t2 t3 hS hb hc
  have hw1 : IntKind.u8.wrap (a1 : Int) = (a1 : Int) := by rw [IntKind.wrap_u8']; omega
  have hw2 : IntKind.u32.wrap (b1 : Int) = (b1 : Int) := IntWalk.u32_in _ (by omega)
  have HA := Lib.hid ha
  have HB := Lib.hid hb
  have HC := Lib.hid hc
  have HS := Lib.hid hS
  clear hI z0 ha hb hc hS t1 t2
  go_enter Tryz.func65, Tryz.ntmps65
  go_wp2_with fail
  refine (take_any lo g 1 bs er _ I0.out).mono ?_
  rintro e w1 ⟨rfl, i1, f1⟩
  rw [← HA.out] at i1 ⊢
  have I1 := Lib.hid i1
  have F1 := Lib.hid (F0.out.trans f1 (fun _ _ h => h))
  have B1 := Lib.hid (B0.out.only f1 (by omega))
  clear i1 f1 I0 F0 B0
  go_wp2_with fail
  refine (take_any lo g 4 _ _ w1 I1.out).mono ?_
  rintro e w2 ⟨rfl, i2, f2⟩
  rw [← HB.out] at i2 ⊢
  have I2 := Lib.hid i2
  have F2 := Lib.hid (F1.out.trans f2 (fun _ _ h => h))
  have B2 := Lib.hid (B1.out.only f2 (by omega))
  clear i2 f2 I1 F1 B1
  go_wp2_with fail
  refine (take_any lo g 8 _ _ w2 I2.out).mono ?_
  rintro e w3 ⟨rfl, i3, f3⟩
  rw [← HC.out] at i3 ⊢
  have I3 := Lib.hid i3
  have F3 := Lib.hid (F2.out.trans f3 (fun _ _ h => h))
  have B3 := Lib.hid (B2.out.only f3 (by omega))
  clear i3 f3 I2 F2 B2
  obtain ⟨W, hW⟩ : ∃ W, W = w3.alloc (.cells #[.int .u8 (a1 : Int), .int .u32 (b1 : Int), .int .u64 (c1 : Int)] 30) := ⟨_, rfl⟩
  have hs3 := F3.out.size
  have I4 : Hid (InAt W lo g c2 c3) := by
    rw [hW]
    exact I3.out.only ((Only.refl (fun _ => False) w3).alloc _) (fun _ _ _ h => h)
  have F4 : Hid (Only (fun i => i = g) w W) := by
    rw [hW]
    exact F3.out.alloc _
  have b4 : Has W w.heap.size 30 #[.int .u8 0, .int .u32 0, .int .u64 0] := by
    rw [hW]
    exact B3.out.alloc _
  have n4 : Has W w3.heap.size 30 #[.int .u8 (a1 : Int), .int .u32 (b1 : Int), .int .u64 (c1 : Int)] := by
    rw [hW]
    exact Has.new _ _ _
  have HW := Lib.hid hW
  clear hW I3 F3 B3
  go_wp2_with fail
  rw [← HW.out]
  refine (err_any lo g _ _ W I4.out).mono ?_
  rintro e w' ⟨rfl, rfl⟩
  have x0 := b4.cell 0
  have x1 := b4.cell 1
  have x2 := b4.cell 2
  have y0 := b4.frozen 0
  have y1 := b4.frozen 1
  have y2 := b4.frozen 2
  have u0 := n4.cell 0
  have u1 := n4.cell 1
  have u2 := n4.cell 2
  simp at x0 x1 x2 u0 u1 u2
  have B4 := Lib.hid b4
  clear b4 n4 HW HA HB HC
  by_cases h : c3 = 0
  · subst h
    go_wp2_with fail
    refine bodyPost_ret (results_cell_row rfl _ _ w.heap.size 30 _ (0, 0) _ rfl (has_set3 B4.out _ _ _) Tryz.underlying30 rfl Tryz.qidSize) rfl ?_
    refine ⟨by rw [HS.out]; rfl, ?_, F4.out.set3 (Nat.le_refl _) _ _ _⟩
    rw [HS.out]
    have k : Only (fun i => i = w.heap.size) W (((W.setCell ⟨w.heap.size, 0, none⟩ (.int .u8 (a1 : Int))).setCell ⟨w.heap.size, 1, none⟩ (.int .u32 (b1 : Int))).setCell ⟨w.heap.size, 2, none⟩ (.int .u64 (c1 : Int))) :=
      (((Only.refl (fun i => i = w.heap.size) W).setCell (p := ⟨w.heap.size, 0, none⟩) (fun _ => rfl) _).setCell (p := ⟨w.heap.size, 1, none⟩) (fun _ => rfl) _).setCell (p := ⟨w.heap.size, 2, none⟩) (fun _ => rfl) _
    exact I4.out.only k (fun i _ hi h => by omega)
  · have hd : (c3 == 0) = false := by simpa using h
    go_wp2_with fail
    refine bodyPost_ret (results_cell_row rfl _ _ w.heap.size 30 _ (0, 0) _ rfl (has_set3 B4.out _ _ _) Tryz.underlying30 rfl Tryz.qidSize) rfl ?_
    refine ⟨by rw [HS.out, if_neg h]; rfl, ?_, F4.out.set3 (Nat.le_refl _) _ _ _⟩
    rw [HS.out]
    have k : Only (fun i => i = w.heap.size) W (((W.setCell ⟨w.heap.size, 0, none⟩ (.int .u8 0)).setCell ⟨w.heap.size, 1, none⟩ (.int .u32 0)).setCell ⟨w.heap.size, 2, none⟩ (.int .u64 0)) :=
      (((Only.refl (fun i => i = w.heap.size) W).setCell (p := ⟨w.heap.size, 0, none⟩) (fun _ => rfl) _).setCell (p := ⟨w.heap.size, 1, none⟩) (fun _ => rfl) _).setCell (p := ⟨w.heap.size, 2, none⟩) (fun _ => rfl) _
    exact I4.out.only k (fun i _ hi h => by omega)

/-- The kinds of a mode, and of a type. -/
def kindOf (m : Nat) : Nat := m / 16777216 % 256 &&& 224
def modeOf (t : Nat) : Nat := (t &&& 224) * 16777216
theorem kindOf_lt (m : Nat) : kindOf m < 256 := Nat.lt_of_le_of_lt Nat.and_le_right (by omega)
theorem modeOf_lt (t : Nat) : modeOf t < 4294967296 := by
  have : t &&& 224 ≤ 224 := Nat.and_le_right
  unfold modeOf
  omega
theorem modeOf_kindOf (m : Nat) (h : m < 4294967296) : modeOf (kindOf m) = m &&& 3758096384 := by
  have h1 : m / 16777216 % 256 = m >>> 24 := by
    rw [Nat.shiftRight_eq_div_pow]
    omega
  have h2 : kindOf m &&& 224 = m >>> 24 &&& 224 := by
    unfold kindOf
    rw [h1, Nat.and_assoc]
    rfl
  have h3 : modeOf (kindOf m) = (m >>> 24 &&& 224) <<< 24 := by
    unfold modeOf
    rw [h2, Nat.shiftLeft_eq]
  rw [h3, show (3758096384 : Nat) = 224 <<< 24 from rfl]
  apply Nat.eq_of_testBit_eq
  intro i
  simp only [Nat.testBit_shiftLeft, Nat.testBit_and, Nat.testBit_shiftRight]
  by_cases hi : 24 ≤ i
  · have : 24 + (i - 24) = i := by omega
    simp [hi, this]
  · simp [hi]

end Go.Proofs.YtepiifbleoimkaaGreatDoor
namespace Go.Proofs.YtepiifbleoimkaaGreatDoor
open Go.RowKit Go.Lib

/-- Byte i of a list, 0 behind its end. -/
def byteAt (l : List UInt8) (i : Nat) : Nat := (l.getD i 0).toNat
theorem byteAt_lt (l : List UInt8) (i : Nat) : byteAt l i < 256 := (l.getD i 0).toNat_lt
theorem byteAt_append {a b : List UInt8} {i : Nat} (h : i < a.length) : byteAt (a ++ b) i = byteAt a i := by
  simp [byteAt, List.getD, List.getElem?_append_left h]
theorem byteAt_drop (l : List UInt8) (k i : Nat) : byteAt (l.drop k) i = byteAt l (k + i) := by simp [byteAt, List.getD]
theorem byteAt_get {l : List UInt8} {i : Nat} (h : i < l.length) : byteAt l i = l[i].toNat := by simp [byteAt, List.getD, h]

/-- What a decoder says of the beginning. -/
def dec (l : List UInt8) : Nat × Nat := decodeN l.length (byteAt l 0) (byteAt l 1) (byteAt l 2) (byteAt l 3)
/-- The width of the first code point by four bytes and a length; 0: there is none. -/
def widN (n b0 b1 b2 b3 : Nat) : Nat :=
  if 0 < n ∧ b0 < 128 then 1
  else if 1 < n ∧ (194 ≤ b0 ∧ b0 < 224) ∧ (128 ≤ b1 ∧ b1 < 192) then 2
  else if 2 < n ∧ (224 ≤ b0 ∧ b0 < 240) ∧ (128 ≤ b1 ∧ b1 < 192) ∧ (128 ≤ b2 ∧ b2 < 192) ∧ (b0 = 224 → 160 ≤ b1) ∧ (b0 = 237 → b1 < 160) then 3
  else if 3 < n ∧ (240 ≤ b0 ∧ b0 < 245) ∧ (128 ≤ b1 ∧ b1 < 192) ∧ (128 ≤ b2 ∧ b2 < 192) ∧ (128 ≤ b3 ∧ b3 < 192) ∧ (b0 = 240 → 144 ≤ b1) ∧ (b0 = 244 → b1 < 144) then 4
  else 0
def wid (l : List UInt8) : Nat := widN l.length (byteAt l 0) (byteAt l 1) (byteAt l 2) (byteAt l 3)

/-- What widN says beside a decoder's answer. -/
def WidDec (n b0 b1 b2 b3 : Nat) (d : Nat × Nat) : Prop :=
  (widN n b0 b1 b2 b3 = 0 ∧ d = (65533, 1)) ∨ (0 < widN n b0 b1 b2 b3 ∧ d.2 = widN n b0 b1 b2 b3 ∧ (d.1 ≠ 65533 ∨ 1 < widN n b0 b1 b2 b3) ∧ (d.1 < 128 → d.2 = 1 ∧ d.1 = b0))
theorem widDec_no {n b0 b1 b2 b3 : Nat} {d : Nat × Nat} (h : widN n b0 b1 b2 b3 = 0) (hd : d = (65533, 1)) : WidDec n b0 b1 b2 b3 d := .inl ⟨h, hd⟩
theorem widDec_yes {n b0 b1 b2 b3 v k : Nat} (h : widN n b0 b1 b2 b3 = k) (h1 : 1 < k) (hv : 128 ≤ v) : WidDec n b0 b1 b2 b3 (v, k) :=
  .inr ⟨by omega, by rw [h], .inr (by omega), fun h => absurd h (by simp only; omega)⟩
theorem widN2 {n b0 b1 b2 b3 : Nat} (h : 194 ≤ b0 ∧ b0 < 224) : widN n b0 b1 b2 b3 = if 1 < n ∧ (128 ≤ b1 ∧ b1 < 192) then 2 else 0 := by
  unfold widN
  repeat' split
  all_goals omega
theorem widN3 {n b0 b1 b2 b3 : Nat} (h : 224 ≤ b0 ∧ b0 < 240) : widN n b0 b1 b2 b3 = if 2 < n ∧ (128 ≤ b1 ∧ b1 < 192) ∧ (128 ≤ b2 ∧ b2 < 192) ∧ (b0 = 224 → 160 ≤ b1) ∧ (b0 = 237 → b1 < 160) then 3 else 0 := by
  unfold widN
  repeat' split
  all_goals omega
theorem widN4 {n b0 b1 b2 b3 : Nat} (h : 240 ≤ b0 ∧ b0 < 245) : widN n b0 b1 b2 b3 = if 3 < n ∧ (128 ≤ b1 ∧ b1 < 192) ∧ (128 ≤ b2 ∧ b2 < 192) ∧ (128 ≤ b3 ∧ b3 < 192) ∧ (b0 = 240 → 144 ≤ b1) ∧ (b0 = 244 → b1 < 144) then 4 else 0 := by
  unfold widN
  repeat' split
  all_goals omega
theorem widN0 {n b0 b1 b2 b3 : Nat} (h : (128 ≤ b0 ∧ b0 < 194) ∨ 245 ≤ b0) : widN n b0 b1 b2 b3 = 0 := by
  unfold widN
  repeat' split
  all_goals omega
theorem widDec_slow {n b0 b1 b2 b3 sz lo hi k : Nat} (hk : sz = k) (h1 : 2 ≤ k) (h4 : k ≤ 4) (hw : widN n b0 b1 b2 b3 = if k ≤ n ∧ (lo ≤ b1 ∧ b1 ≤ hi) ∧ (2 < k → 128 ≤ b2 ∧ b2 ≤ 191) ∧ (3 < k → 128 ≤ b3 ∧ b3 ≤ 191) then k else 0)
    (hv : k ≤ n → lo ≤ b1 → b1 ≤ hi → (2 < k → 128 ≤ b2 ∧ b2 ≤ 191) → 128 ≤ (slowN n b0 b1 b2 b3 sz lo hi).1) : WidDec n b0 b1 b2 b3 (slowN n b0 b1 b2 b3 sz lo hi) := by
  subst hk
  by_cases hc : sz ≤ n ∧ (lo ≤ b1 ∧ b1 ≤ hi) ∧ (2 < sz → 128 ≤ b2 ∧ b2 ≤ 191) ∧ (3 < sz → 128 ≤ b3 ∧ b3 ≤ 191)
  · rw [if_pos hc] at hw
    have hv := hv hc.1 hc.2.1.1 hc.2.1.2 hc.2.2.1
    have he : (slowN n b0 b1 b2 b3 sz lo hi).2 = sz := by
      unfold slowN
      repeat' split
      all_goals first | (exfalso; omega) | (simp only; omega)
    have : slowN n b0 b1 b2 b3 sz lo hi = ((slowN n b0 b1 b2 b3 sz lo hi).1, sz) := Prod.ext rfl he
    rw [this]
    exact widDec_yes hw (by omega) hv
  · rw [if_neg hc] at hw
    refine widDec_no hw ?_
    unfold slowN
    repeat' split
    all_goals first | rfl | (exfalso; omega)
theorem if_iff {p q : Prop} [Decidable p] [Decidable q] {k : Nat} (h : p ↔ q) : (if p then k else 0) = if q then k else 0 := by
  by_cases hp : p
  · rw [if_pos hp, if_pos (h.1 hp)]
  · rw [if_neg hp, if_neg (fun hq => hp (h.2 hq))]

theorem slow2v {n b0 b1 b2 b3 lo hi : Nat} (hb : 194 ≤ b0 ∧ b0 < 224) : 128 ≤ (slowN n b0 b1 b2 b3 2 lo hi).1 := by
  unfold slowN
  repeat' split
  all_goals first | (exfalso; omega) | (simp only; omega)
theorem slow3v {n b0 b1 b2 b3 lo hi : Nat} (h : b0 % 16 = 0 → 128 ≤ b1 % 64 * 64) : 128 ≤ (slowN n b0 b1 b2 b3 3 lo hi).1 := by
  unfold slowN
  repeat' split
  all_goals first | (exfalso; omega) | (simp only; omega)
theorem slow4v {n b0 b1 b2 b3 lo hi : Nat} (hb : 240 ≤ b0 ∧ b0 < 245) (h : b0 % 8 = 0 → 128 ≤ b1 % 64 * 4096) : 128 ≤ (slowN n b0 b1 b2 b3 4 lo hi).1 := by
  unfold slowN
  repeat' split
  all_goals first | (exfalso; omega) | (simp only; omega)

theorem widN_dec (n b0 b1 b2 b3 : Nat) (hn : 0 < n) (h0 : b0 < 256) (h1 : b1 < 256) (h2 : b2 < 256) (h3 : b3 < 256) : WidDec n b0 b1 b2 b3 (decodeN n b0 b1 b2 b3) := by
  by_cases c0 : b0 < 128
  · refine .inr ?_
    have e : decodeN n b0 b1 b2 b3 = (b0, 1) := by simp [decodeN, c0]
    have e2 : widN n b0 b1 b2 b3 = 1 := by rw [widN, if_pos ⟨hn, c0⟩]
    rw [e, e2]
    exact ⟨by omega, rfl, .inl (by simp only; omega), fun _ => ⟨rfl, rfl⟩⟩
  by_cases c1 : b0 < 194 ∨ 245 ≤ b0
  · exact widDec_no (widN0 (by omega)) (bad_eq n b0 b1 b2 b3 h0 (by
      unfold firstT
      repeat' split
      all_goals omega))
  by_cases c2 : b0 < 224
  · rw [← slow_C2 n b0 b1 b2 b3 hn h1 h2 h3 (by omega)]
    exact widDec_slow (k := 2) rfl (by omega) (by omega) (by rw [widN2 (by omega)]; exact if_iff (by omega)) (fun _ _ _ _ => slow2v (by omega))
  by_cases c3 : b0 < 240
  · by_cases d0 : b0 = 224
    · rw [← slow_E0 n b0 b1 b2 b3 hn h1 h2 h3 d0]
      exact widDec_slow (k := 3) rfl (by omega) (by omega) (by rw [widN3 (by omega)]; exact if_iff (by omega)) (fun _ _ _ _ => slow3v (by omega))
    by_cases d1 : b0 = 237
    · rw [← slow_ED n b0 b1 b2 b3 hn h1 h2 h3 d1]
      exact widDec_slow (k := 3) rfl (by omega) (by omega) (by rw [widN3 (by omega)]; exact if_iff (by omega)) (fun _ _ _ _ => slow3v (by omega))
    · rw [← slow_E1 n b0 b1 b2 b3 hn h1 h2 h3 (by omega)]
      exact widDec_slow (k := 3) rfl (by omega) (by omega) (by rw [widN3 (by omega)]; exact if_iff (by omega)) (fun _ _ _ _ => slow3v (by omega))
  · by_cases d0 : b0 = 240
    · rw [← slow_F0 n b0 b1 b2 b3 hn h1 h2 h3 d0]
      exact widDec_slow (k := 4) rfl (by omega) (by omega) (by rw [widN4 (by omega)]; exact if_iff (by omega)) (fun _ _ _ _ => slow4v (by omega) (by omega))
    by_cases d1 : b0 = 244
    · rw [← slow_F4 n b0 b1 b2 b3 hn h1 h2 h3 d1]
      exact widDec_slow (k := 4) rfl (by omega) (by omega) (by rw [widN4 (by omega)]; exact if_iff (by omega)) (fun _ _ _ _ => slow4v (by omega) (by omega))
    · rw [← slow_F1 n b0 b1 b2 b3 hn h1 h2 h3 (by omega)]
      exact widDec_slow (k := 4) rfl (by omega) (by omega) (by rw [widN4 (by omega)]; exact if_iff (by omega)) (fun _ _ _ _ => slow4v (by omega) (by omega))

set_option maxHeartbeats 2000000 in
theorem widN_le (n b0 b1 b2 b3 : Nat) : widN n b0 b1 b2 b3 ≤ n ∧ widN n b0 b1 b2 b3 ≤ 4 := by
  unfold widN
  repeat' split
  all_goals omega

theorem widN_is1 {n b0 b1 b2 b3 : Nat} : widN n b0 b1 b2 b3 = 1 ↔ 0 < n ∧ b0 < 128 := by
  unfold widN
  repeat' split
  all_goals omega
theorem widN_is2 {n b0 b1 b2 b3 : Nat} : widN n b0 b1 b2 b3 = 2 ↔ 1 < n ∧ (194 ≤ b0 ∧ b0 < 224) ∧ (128 ≤ b1 ∧ b1 < 192) := by
  constructor
  · intro h
    unfold widN at h
    repeat' split at h
    all_goals omega
  · intro h
    rw [widN2 h.2.1, if_pos ⟨h.1, h.2.2⟩]
theorem widN_is3 {n b0 b1 b2 b3 : Nat} : widN n b0 b1 b2 b3 = 3 ↔ 2 < n ∧ (224 ≤ b0 ∧ b0 < 240) ∧ (128 ≤ b1 ∧ b1 < 192) ∧ (128 ≤ b2 ∧ b2 < 192) ∧ (b0 = 224 → 160 ≤ b1) ∧ (b0 = 237 → b1 < 160) := by
  constructor
  · intro h
    unfold widN at h
    repeat' split at h
    all_goals first | (exfalso; omega) | assumption
  · intro h
    rw [widN3 h.2.1, if_pos ⟨h.1, h.2.2⟩]
theorem widN_is4 {n b0 b1 b2 b3 : Nat} : widN n b0 b1 b2 b3 = 4 ↔ 3 < n ∧ (240 ≤ b0 ∧ b0 < 245) ∧ (128 ≤ b1 ∧ b1 < 192) ∧ (128 ≤ b2 ∧ b2 < 192) ∧ (128 ≤ b3 ∧ b3 < 192) ∧ (b0 = 240 → 144 ≤ b1) ∧ (b0 = 244 → b1 < 144) := by
  constructor
  · intro h
    unfold widN at h
    repeat' split at h
    all_goals first | (exfalso; omega) | assumption
  · intro h
    rw [widN4 h.2.1, if_pos ⟨h.1, h.2.2⟩]
/-- A code point of k bytes is the same one wherever those bytes stand first. -/
theorem widN_same {n m b0 b1 b2 b3 c0 c1 c2 c3 : Nat} (h : widN n b0 b1 b2 b3 ≠ 0) (hm : widN n b0 b1 b2 b3 ≤ m) (h0 : 0 < n → 0 < m → c0 = b0) (h1 : 1 < n → 1 < m → c1 = b1) (h2 : 2 < n → 2 < m → c2 = b2) (h3 : 3 < n → 3 < m → c3 = b3) :
    widN m c0 c1 c2 c3 = widN n b0 b1 b2 b3 := by
  have h4 := (widN_le n b0 b1 b2 b3).2
  have hc : widN n b0 b1 b2 b3 = 1 ∨ widN n b0 b1 b2 b3 = 2 ∨ widN n b0 b1 b2 b3 = 3 ∨ widN n b0 b1 b2 b3 = 4 := by omega
  rcases hc with e | e | e | e
  · rw [e] at hm ⊢
    have k := widN_is1.1 e
    rw [h0 (by omega) (by omega)]
    exact widN_is1.2 ⟨by omega, k.2⟩
  · rw [e] at hm ⊢
    have k := widN_is2.1 e
    rw [h0 (by omega) (by omega), h1 (by omega) (by omega)]
    exact widN_is2.2 ⟨by omega, k.2⟩
  · rw [e] at hm ⊢
    have k := widN_is3.1 e
    rw [h0 (by omega) (by omega), h1 (by omega) (by omega), h2 (by omega) (by omega)]
    exact widN_is3.2 ⟨by omega, k.2⟩
  · rw [e] at hm ⊢
    have k := widN_is4.1 e
    rw [h0 (by omega) (by omega), h1 (by omega) (by omega), h2 (by omega) (by omega), h3 (by omega) (by omega)]
    exact widN_is4.2 ⟨by omega, k.2⟩

theorem widN_tails (m c0 c1 c2 c3 : Nat) : (1 < widN m c0 c1 c2 c3 → 128 ≤ c0 ∧ 128 ≤ c1 ∧ c1 < 192) ∧ (2 < widN m c0 c1 c2 c3 → 128 ≤ c2 ∧ c2 < 192) ∧ (3 < widN m c0 c1 c2 c3 → 128 ≤ c3 ∧ c3 < 192) := by
  have h4 := (widN_le m c0 c1 c2 c3).2
  have hc : widN m c0 c1 c2 c3 = 0 ∨ widN m c0 c1 c2 c3 = 1 ∨ widN m c0 c1 c2 c3 = 2 ∨ widN m c0 c1 c2 c3 = 3 ∨ widN m c0 c1 c2 c3 = 4 := by omega
  rcases hc with e | e | e | e | e
  · omega
  · omega
  · have k := widN_is2.1 e
    omega
  · have k := widN_is3.1 e
    omega
  · have k := widN_is4.1 e
    omega
theorem widN_none (n b0 b1 b2 b3 : Nat) (h : 128 ≤ b0 ∧ b0 < 192) : widN n b0 b1 b2 b3 = 0 := by
  unfold widN
  repeat' split
  all_goals omega

theorem wid_le (l : List UInt8) : wid l ≤ l.length := (widN_le _ _ _ _ _).1
theorem wid_le4 (l : List UInt8) : wid l ≤ 4 := (widN_le _ _ _ _ _).2
theorem wid_append {a : List UInt8} (b : List UInt8) (h : wid a ≠ 0) : wid (a ++ b) = wid a := by
  have hl := wid_le a
  exact widN_same h (by show wid a ≤ _; rw [List.length_append]; omega) (fun h _ => byteAt_append h) (fun h _ => byteAt_append h) (fun h _ => byteAt_append h) (fun h _ => byteAt_append h)
theorem byteAt_take (l : List UInt8) (c i : Nat) (h : i < (l.take c).length) : byteAt (l.take c) i = byteAt l i := by
  have e : l.take c ++ l.drop c = l := List.take_append_drop c l
  have := byteAt_append (b := l.drop c) h
  rw [e] at this
  exact this.symm
theorem wid_take {l : List UInt8} {c : Nat} (h : wid l ≤ c) (h0 : wid l ≠ 0) : wid (l.take c) = wid l := by
  have hl := wid_le l
  exact widN_same h0 (by show wid l ≤ _; rw [List.length_take]; omega) (fun _ h => byteAt_take l c _ h) (fun _ h => byteAt_take l c _ h) (fun _ h => byteAt_take l c _ h) (fun _ h => byteAt_take l c _ h)
theorem wid_cut {l : List UInt8} {c : Nat} (h : c < wid l) : wid (l.take c) = 0 := by
  have e : l.take c ++ l.drop c = l := List.take_append_drop c l
  have hl := wid_le (l.take c)
  rw [List.length_take] at hl
  refine Decidable.byContradiction fun hc => ?_
  have := wid_append (l.drop c) hc
  rw [e] at this
  omega
theorem wid_tail {l : List UInt8} {c : Nat} (h : c < wid l) (h0 : 0 < c) : 128 ≤ byteAt l c ∧ byteAt l c < 192 := by
  have h4 := wid_le4 l
  have t := widN_tails l.length (byteAt l 0) (byteAt l 1) (byteAt l 2) (byteAt l 3)
  unfold wid at h h4
  have hc : c = 1 ∨ c = 2 ∨ c = 3 := by omega
  rcases hc with rfl | rfl | rfl
  · exact (t.1 (by omega)).2
  · exact t.2.1 (by omega)
  · exact t.2.2 (by omega)
theorem wid_drop {l : List UInt8} {c : Nat} (h : c < wid l) (h0 : 0 < c) : wid (l.drop c) = 0 := by
  have t := wid_tail h h0
  unfold wid
  refine widN_none _ _ _ _ _ ?_
  rw [byteAt_drop]
  exact t

/-- How many code points; none: it is no UTF-8. -/
def runesF : Nat → List UInt8 → Option Nat
  | 0, l => if l.length = 0 then some 0 else none
  | f + 1, l => if l.length = 0 then some 0 else if wid l = 0 then none else (runesF f (l.drop (wid l))).map (· + 1)
def runes (l : List UInt8) : Option Nat := runesF l.length l
theorem runesF_eq : ∀ (f : Nat) (l : List UInt8), l.length ≤ f → runesF f l = runesF l.length l
  | 0, l, h => by have : l.length = 0 := by omega
                  rw [this]
  | f + 1, l, h => by
    by_cases h0 : l.length = 0
    · rw [h0]; simp [runesF, h0]
    · obtain ⟨g, hg⟩ : ∃ g, l.length = g + 1 := ⟨l.length - 1, by omega⟩
      rw [hg]
      simp only [runesF, h0, if_false]
      by_cases hw : wid l = 0
      · simp [hw]
      · have hl := wid_le l
        have hd : (l.drop (wid l)).length ≤ g := by rw [List.length_drop]; omega
        rw [if_neg hw, if_neg hw, runesF_eq f _ (by omega), runesF_eq g _ hd]
theorem runes_nil : runes [] = some 0 := rfl
theorem runes_step {l : List UInt8} (h : l.length ≠ 0) : runes l = if wid l = 0 then none else (runes (l.drop (wid l))).map (· + 1) := by
  obtain ⟨g, hg⟩ : ∃ g, l.length = g + 1 := ⟨l.length - 1, by omega⟩
  have e : runes l = runesF (g + 1) l := by rw [runes, hg]
  rw [e]
  simp only [runesF, h, if_false]
  by_cases hw : wid l = 0
  · simp [hw]
  · rw [if_neg hw, if_neg hw, runesF_eq g _ (by rw [List.length_drop]; omega)]
    rfl
theorem runes_le : ∀ (f : Nat) (l : List UInt8) (n : Nat), l.length ≤ f → runes l = some n → n ≤ l.length
  | 0, l, n, h, e => by
    have : l = [] := List.eq_nil_of_length_eq_zero (by omega)
    subst this
    rw [runes_nil] at e
    injection e with e
    omega
  | f + 1, l, n, h, e => by
    by_cases h0 : l.length = 0
    · have : l = [] := List.eq_nil_of_length_eq_zero h0
      subst this
      rw [runes_nil] at e
      injection e with e
      omega
    · rw [runes_step h0] at e
      by_cases hw : wid l = 0
      · simp [hw] at e
      · rw [if_neg hw] at e
        obtain ⟨m, hm, rfl⟩ := Option.map_eq_some_iff.1 e
        have := runes_le f _ m (by rw [List.length_drop]; omega) hm
        rw [List.length_drop] at this
        have := wid_le l
        omega

theorem runes_add : ∀ (f : Nat) (a b : List UInt8) (n m : Nat), a.length ≤ f → runes a = some n → runes b = some m → runes (a ++ b) = some (n + m)
  | 0, a, b, n, m, h, e1, e2 => by
    have : a = [] := List.eq_nil_of_length_eq_zero (by omega)
    subst this
    rw [runes_nil] at e1
    injection e1 with e1
    subst e1
    simpa using e2
  | f + 1, a, b, n, m, h, e1, e2 => by
    by_cases h0 : a.length = 0
    · have : a = [] := List.eq_nil_of_length_eq_zero h0
      subst this
      rw [runes_nil] at e1
      injection e1 with e1
      subst e1
      simpa using e2
    · rw [runes_step h0] at e1
      by_cases hw : wid a = 0
      · simp [hw] at e1
      · rw [if_neg hw] at e1
        obtain ⟨k, hk, rfl⟩ := Option.map_eq_some_iff.1 e1
        rw [runes_step (by rw [List.length_append]; omega), wid_append b hw, if_neg hw, List.drop_append_of_le_length (wid_le a), runes_add f _ b k m (by rw [List.length_drop]; omega) hk e2]
        simp; omega

theorem runes_cut : ∀ (f : Nat) (l : List UInt8) (c : Nat), l.length ≤ f → (runes l).isSome = true → (runes (l.take c)).isSome = (runes (l.drop c)).isSome
  | 0, l, c, h, e => by
    have : l = [] := List.eq_nil_of_length_eq_zero (by omega)
    subst this
    simp
  | f + 1, l, c, h, e => by
    by_cases h0 : l.length = 0
    · have : l = [] := List.eq_nil_of_length_eq_zero h0
      subst this
      simp
    · by_cases hc : c = 0
      · subst hc
        simp [runes_nil, e]
      · rw [runes_step h0] at e
        by_cases hw : wid l = 0
        · simp [hw] at e
        · rw [if_neg hw] at e
          have hl := wid_le l
          by_cases hk : wid l ≤ c
          · have ih := runes_cut f (l.drop (wid l)) (c - wid l) (by rw [List.length_drop]; omega) (by simpa using e)
            have e1 : (l.drop (wid l)).drop (c - wid l) = l.drop c := by rw [List.drop_drop]; congr 1; omega
            have e2 : (l.take c).drop (wid l) = (l.drop (wid l)).take (c - wid l) := by rw [List.drop_take]
            rw [e1] at ih
            rw [runes_step (l := l.take c) (by rw [List.length_take]; omega), wid_take hk hw, if_neg hw, e2]
            simpa using ih
          · rw [runes_step (l := l.take c) (by rw [List.length_take]; omega), wid_cut (by omega), runes_step (l := l.drop c) (by rw [List.length_drop]; omega), wid_drop (by omega) (by omega)]
            simp
end Go.Proofs.YtepiifbleoimkaaGreatDoor
