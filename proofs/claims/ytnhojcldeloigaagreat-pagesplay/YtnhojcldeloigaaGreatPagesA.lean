/-
  Layer 8: a book's sectors as lists: its root, its lists of slots, its pages; what a commit does to a disk, wherever the power goes. Nothing of the program is used here.
-/
import Derived.Test.YtnhojcldeloigaaGreatDiskA
namespace Go.Proofs.YtnhojcldeloigaaGreat
open Go.RowKit

/-! ### numbers and slots in bytes -/
def le2 (v : Nat) : List UInt8 := [UInt8.ofNat v, UInt8.ofNat (v / 256)]
def markB : List UInt8 := [76, 79, 71, 71, 73, 65, 80, 71]
def rootB (z n k l : Nat) : List UInt8 := markB ++ le2 z ++ le2 n ++ le2 k ++ le2 l ++ List.replicate (z - 16) 0
def num2 (b : List UInt8) (i : Nat) : Nat := (b.getD i 0).toNat + 256 * (b.getD (i + 1) 0).toNat
def lstOf (b : List UInt8) : Nat := num2 b 14 % 2
def crumb (c : UInt8) (j : Nat) : Nat := c.toNat / 4 ^ j % 4
/-- The byte whose j-th two bits are v. -/
def setCrumb (c : UInt8) (j v : Nat) : UInt8 := UInt8.ofNat (c.toNat - crumb c j * 4 ^ j + v * 4 ^ j)
def slotOf (sl : List UInt8) (p : Nat) : Nat := crumb (sl.getD (p / 4) 0) (p % 4)
def freeS (v : Nat) : Nat := if v = 1 then 2 else 1
def putS (sl : List UInt8) (p v : Nat) : List UInt8 := sl.set (p / 4) (setCrumb (sl.getD (p / 4) 0) (p % 4) v)

theorem crumb_set_all : ((List.range 256).all fun c => (List.range 4).all fun j => (List.range 4).all fun v => (List.range 4).all fun i => decide (crumb (setCrumb (UInt8.ofNat c) j v) i = if i = j then v else crumb (UInt8.ofNat c) i)) = true := by kernel_rfl
theorem crumb_set (c : UInt8) (j v i : Nat) (hj : j < 4) (hv : v < 4) (hi : i < 4) : crumb (setCrumb c j v) i = if i = j then v else crumb c i := by
  have h := crumb_set_all
  simp only [List.all_eq_true, List.mem_range, decide_eq_true_eq] at h
  have hc := h c.toNat c.toNat_lt j hj v hv i hi
  simpa using hc
theorem crumb_lt (c : UInt8) (j : Nat) : crumb c j < 4 := Nat.mod_lt _ (by decide)
theorem freeS_cases (v : Nat) : (freeS v = 1 ∨ freeS v = 2) ∧ freeS v ≠ 0 ∧ freeS v < 4 ∧ freeS v ≠ v := by unfold freeS; split <;> omega
theorem putS_length (sl : List UInt8) (p v : Nat) : (putS sl p v).length = sl.length := by simp [putS]
theorem slotOf_putS (sl : List UInt8) (p v q : Nat) (hp : p / 4 < sl.length) (hv : v < 4) : slotOf (putS sl p v) q = if q = p then v else slotOf sl q := by
  unfold slotOf putS
  by_cases hb : q / 4 = p / 4
  · rw [hb]
    have hg : (sl.set (p / 4) (setCrumb (sl.getD (p / 4) 0) (p % 4) v)).getD (p / 4) 0 = setCrumb (sl.getD (p / 4) 0) (p % 4) v := by simp [List.getD, hp]
    rw [hg, crumb_set _ _ _ _ (Nat.mod_lt _ (by decide)) hv (Nat.mod_lt _ (by decide))]
    by_cases hq : q = p
    · rw [if_pos hq, if_pos (by rw [hq])]
    · rw [if_neg hq, if_neg (by omega)]
  · have hg : (sl.set (p / 4) (setCrumb (sl.getD (p / 4) 0) (p % 4) v)).getD (q / 4) 0 = sl.getD (q / 4) 0 := by
      simp only [List.getD]
      rw [List.getElem?_set_ne (fun e => hb e.symm)]
    rw [hg, if_neg (fun e => hb (by rw [e]))]

/-! ### where a book's sectors lie -/
def secF (k z : Nat) : Nat := (k + 4 * z - 1) / (4 * z)
structure BG where
  at_ : Nat
  n : Nat
  z : Nat
  k : Nat
def BG.L (g : BG) : Nat := secF 1024 g.z
def BG.M (g : BG) : Nat := secF g.k g.z
def BG.listP (g : BG) (l : Nat) : Nat := 1 + l * g.L
def BG.slotP (g : BG) (p v : Nat) : Nat := 1 + 2 * g.L + 2 * p + (v - 1)
structure BG.Ok (g : BG) (N : Nat) : Prop where
  z1 : 64 ≤ g.z
  z2 : g.z ≤ 1024
  k1 : 1 ≤ g.k
  k2 : g.k ≤ 1024
  room : 3 * g.k + 16 ≤ g.n
  fit : g.at_ + g.n ≤ N
  most : N ≤ 16384
theorem secF_pos {k z : Nat} (hk : 1 ≤ k) (hz : 1 ≤ z) : 1 ≤ secF k z := by
  unfold secF
  rw [Nat.le_div_iff_mul_le (by omega)]
  omega
theorem secF_mono {k k' z : Nat} (hk : k ≤ k') : secF k z ≤ secF k' z := Nat.div_le_div_right (by omega)
theorem secF_most {z : Nat} (hz : 64 ≤ z) : secF 1024 z ≤ 4 := by
  unfold secF
  have : (1024 + 4 * z - 1) / (4 * z) < 5 := by
    rw [Nat.div_lt_iff_lt_mul (by omega)]
    omega
  omega
/-- All pages' slots are there. -/
theorem secF_enough {k z : Nat} (hz : 1 ≤ z) : k ≤ 4 * (secF k z * z) := by
  unfold secF
  have h := Nat.div_add_mod (k + 4 * z - 1) (4 * z)
  have h2 := Nat.mod_lt (k + 4 * z - 1) (show 0 < 4 * z by omega)
  have e : 4 * ((k + 4 * z - 1) / (4 * z) * z) = 4 * z * ((k + 4 * z - 1) / (4 * z)) := by
    rw [Nat.mul_comm _ z, ← Nat.mul_assoc]
  rw [e]
  omega
section
variable {g : BG} {N : Nat} (h : g.Ok N)
include h
theorem BG.Ok.L1 : 1 ≤ g.L := secF_pos (by decide) (by have := h.z1; omega)
theorem BG.Ok.L4 : g.L ≤ 4 := secF_most h.z1
theorem BG.Ok.M1 : 1 ≤ g.M := secF_pos h.k1 (by have := h.z1; omega)
theorem BG.Ok.ML : g.M ≤ g.L := secF_mono h.k2
theorem BG.Ok.enough : g.k ≤ 4 * (g.M * g.z) := secF_enough (by have := h.z1; omega)
theorem BG.Ok.Mz : g.M * g.z ≤ 4096 := by
  have h1 := Nat.le_trans h.ML h.L4
  have h2 := Nat.mul_le_mul h1 h.z2
  omega
end

/-! ### a book on a list of sectors -/
def BG.sec (g : BG) (ls : List (List UInt8)) (i : Nat) : List UInt8 := ls.getD (g.at_ + i) []
def BG.slots (g : BG) (ls : List (List UInt8)) (l : Nat) : List UInt8 := ((List.range g.M).map fun j => g.sec ls (g.listP l + j)).flatten
def okSl (k : Nat) (sl : List UInt8) : Prop := ∀ p, p < 4 * sl.length → slotOf sl p = 0 ∨ (slotOf sl p ≤ 2 ∧ p < k)
def zpage (z : Nat) : List UInt8 := List.replicate (z - 16) 0
def BG.page (g : BG) (ls : List (List UInt8)) (sl : List UInt8) (p : Nat) : List UInt8 :=
  if slotOf sl p = 0 then zpage g.z else (g.sec ls (g.slotP p (slotOf sl p))).take (g.z - 16)
structure Rep (g : BG) (ls : List (List UInt8)) (l : Nat) (sl : List UInt8) (P : Nat → List UInt8) : Prop where
  root : g.sec ls 0 = rootB g.z g.n g.k l
  two : l < 2
  slots : g.slots ls l = sl
  len : sl.length = g.M * g.z
  ok : okSl g.k sl
  page : ∀ p, p < g.k → P p = g.page ls sl p
/-- The sectors that tell what the book has. -/
def BG.live (g : BG) (l : Nat) (sl : List UInt8) (i : Nat) : Prop :=
  i = g.at_ ∨ (∃ j, j < g.M ∧ i = g.at_ + (g.listP l + j)) ∨ (∃ p, p < g.k ∧ slotOf sl p ≠ 0 ∧ i = g.at_ + g.slotP p (slotOf sl p))
/-- But for sectors in T they are the same. -/
def Agree (T : Nat → Prop) (a b : List (List UInt8)) : Prop := a.length = b.length ∧ ∀ i, ¬ T i → a[i]? = b[i]?
theorem Agree.refl (T : Nat → Prop) (a : List (List UInt8)) : Agree T a a := ⟨rfl, fun _ _ => rfl⟩
theorem Agree.trans {T : Nat → Prop} {a b c : List (List UInt8)} (h : Agree T a b) (k : Agree T b c) : Agree T a c := ⟨h.1.trans k.1, fun i hi => (h.2 i hi).trans (k.2 i hi)⟩
theorem Agree.mono {S T : Nat → Prop} {a b : List (List UInt8)} (h : Agree S a b) (hs : ∀ i, S i → T i) : Agree T a b := ⟨h.1, fun i hi => h.2 i fun hS => hi (hs i hS)⟩
theorem Agree.sec {T : Nat → Prop} {a b : List (List UInt8)} (h : Agree T a b) (g : BG) {i : Nat} (hi : ¬ T (g.at_ + i)) : g.sec b i = g.sec a i := by simp only [BG.sec, List.getD, h.2 _ hi]
theorem agree_apply (T : Nat → Prop) (ps : List (Nat × List UInt8)) (l : List (List UInt8)) (h : ∀ p ∈ ps, T p.1) : Agree T l (applyL l ps) :=
  ⟨(applyL_length ps l).symm, fun i hi => (applyL_other ps l i (fun p hp e => hi (e ▸ h p hp))).symm⟩
theorem Rep.agree {g : BG} {a b : List (List UInt8)} {l : Nat} {sl : List UInt8} {P : Nat → List UInt8} {T : Nat → Prop} (h : Rep g a l sl P) (k : Agree T a b) (hT : ∀ i, g.live l sl i → ¬ T i) : Rep g b l sl P := by
  refine ⟨?_, h.two, ?_, h.len, h.ok, fun p hp => ?_⟩
  · rw [k.sec g (hT _ (.inl rfl))]
    exact h.root
  · rw [← h.slots]
    unfold BG.slots
    congr 1
    refine List.map_congr_left fun j hj => ?_
    exact k.sec g (hT _ (.inr (.inl ⟨j, List.mem_range.1 hj, rfl⟩)))
  · rw [h.page p hp]
    unfold BG.page
    split
    · rfl
    · rename_i h0
      rw [k.sec g (hT _ (.inr (.inr ⟨p, hp, h0, rfl⟩)))]
theorem Rep.slot {g : BG} {N : Nat} {ls : List (List UInt8)} {l : Nat} {sl : List UInt8} {P : Nat → List UInt8} (h : Rep g ls l sl P) (ok : g.Ok N) {p : Nat} (hp : p < g.k) : slotOf sl p ≤ 2 ∧ p / 4 < sl.length := by
  have he := ok.enough
  have hl : p < 4 * sl.length := by rw [h.len]; omega
  refine ⟨?_, by omega⟩
  rcases h.ok p hl with h | h
  · omega
  · exact h.1

/-! ### what a row of writes does to a disk -/
def D.runs (s : D) : List (Int × List UInt8) → Int × D
  | [] => (0, s)
  | p :: ps => if (s.write p.1 p.2).1 = 0 then (s.write p.1 p.2).2.runs ps else s.write p.1 p.2
theorem D.runs_append (ps qs : List (Int × List UInt8)) : ∀ s : D, s.runs (ps ++ qs) = if (s.runs ps).1 = 0 then (s.runs ps).2.runs qs else s.runs ps := by
  induction ps with
  | nil => intro s; rfl
  | cons p ps ih =>
    intro s
    simp only [List.cons_append, D.runs]
    split
    · exact ih _
    · rfl
theorem D.runs_one (s : D) (ps : List (Int × List UInt8)) (i : Int) (b : List UInt8) (h : (s.runs ps).1 = 0) : s.runs (ps ++ [(i, b)]) = (s.runs ps).2.write i b := by
  rw [D.runs_append, if_pos h]
  simp only [D.runs]
  split
  · rename_i h0
    exact Prod.ext (by rw [h0]) rfl
  · rfl
/-- A result handed on. -/
def andD (r : Int × D) (f : D → Int × D) : Int × D := if r.1 = 0 then f r.2 else r
theorem andD_ok {r : Int × D} (f : D → Int × D) (h : r.1 = 0) : andD r f = f r.2 := if_pos h
theorem andD_no {r : Int × D} (f : D → Int × D) (h : r.1 ≠ 0) : andD r f = r := if_neg h

/-- A disk that is on, and what has happened to it since s0 in sectors of T. -/
structure OnT (s0 : D) (T : Nat → Prop) (s : D) : Prop where
  ok : s.Ok
  on : s.off = false
  size : s.size = s0.size
  kept : s.kept = s0.kept
  pend : ∀ p ∈ s.pend, T p.1
/-- The power has gone. -/
structure OffT (s0 : D) (T : Nat → Prop) (s : D) : Prop where
  ok : s.Ok
  off : s.off = true
  size : s.size = s0.size
  pend : s.pend = []
  kept : Agree T s0.kept s.kept
theorem D.write_on {s : D} (ho : s.off = false) {i : Nat} {b : List UInt8} (hi : i < s.kept.length) (hb : b.length = s.size) : s.write (i : Int) b = if s.armed = 1 then (22, s.cut s.keep) else (0, s.put i b) := by
  unfold D.write
  rw [if_neg (by rw [ho]; decide), if_neg (by omega)]
  simp
theorem runs_on {s0 : D} {T : Nat → Prop} : ∀ (ws : List (Nat × List UInt8)) (s : D), OnT s0 T s → (∀ p ∈ ws, p.1 < s.kept.length ∧ p.2.length = s.size ∧ T p.1) →
    ((s.runs (ws.map fun p => ((p.1 : Int), p.2))).1 = 0 ∧ OnT s0 T (s.runs (ws.map fun p => ((p.1 : Int), p.2))).2 ∧ (s.runs (ws.map fun p => ((p.1 : Int), p.2))).2.pend = s.pend ++ ws ∧ (s.runs (ws.map fun p => ((p.1 : Int), p.2))).2.writes = s.writes + ws.length ∧ (s.runs (ws.map fun p => ((p.1 : Int), p.2))).2.armed ≤ s.armed) ∨
    ((s.runs (ws.map fun p => ((p.1 : Int), p.2))).1 = 22 ∧ OffT s0 T (s.runs (ws.map fun p => ((p.1 : Int), p.2))).2 ∧ (s.runs (ws.map fun p => ((p.1 : Int), p.2))).2.writes ≤ s.writes + ws.length ∧ (s.runs (ws.map fun p => ((p.1 : Int), p.2))).2.armed = 0)
  | [], s, h, _ => .inl ⟨rfl, h, by simp [D.runs], by simp [D.runs], Nat.le_refl _⟩
  | p :: ws, s, h, hw => by
    obtain ⟨h1, h2, h3⟩ := hw p (List.mem_cons_self ..)
    have e := D.write_on h.on h1 h2
    simp only [List.map_cons, D.runs]
    by_cases ha : s.armed = 1
    · rw [if_pos ha] at e
      rw [if_neg (by rw [e]; simp)]
      refine .inr ?_
      rw [e]
      refine ⟨rfl, ⟨h.ok.cut _, rfl, h.size, rfl, ?_⟩, by simp [D.cut], rfl⟩
      rw [← h.kept]
      exact agree_apply T _ _ (fun p hp => h.pend p (chosen_mem _ _ p hp))
    · rw [if_neg ha] at e
      have e2 : (s.write (p.1 : Int) p.2).2 = s.put p.1 p.2 := by rw [e]
      rw [if_pos (by rw [e]), e2]
      have hn : OnT s0 T (s.put p.1 p.2) := ⟨h.ok.put h1 h2, h.on, h.size, h.kept, fun q hq => by
        rcases List.mem_append.1 hq with hq | hq
        · exact h.pend q hq
        · obtain rfl := List.mem_singleton.1 hq
          exact h3⟩
      have ih := runs_on ws (s.put p.1 p.2) hn (fun q hq => hw q (List.mem_cons_of_mem _ hq))
      have ew : (s.put p.1 p.2).writes = s.writes + 1 := rfl
      have ea : (s.put p.1 p.2).armed ≤ s.armed := by simp [D.put]
      have ep : (s.put p.1 p.2).pend = s.pend ++ [(p.1, p.2)] := rfl
      rcases ih with ⟨q1, q2, q3, q4, q5⟩ | ⟨q1, q2, q3, q4⟩
      · exact .inl ⟨q1, q2, by rw [q3, ep]; simp, by rw [q4, ew]; simp; omega, by omega⟩
      · exact .inr ⟨q1, q2, by rw [ew] at q3; simp; omega, q4⟩
theorem applyL_mem : ∀ (ps : List (Nat × List UInt8)) (l : List (List UInt8)), (ps.map Prod.fst).Nodup → ∀ p ∈ ps, p.1 < l.length → (applyL l ps)[p.1]? = some p.2
  | [], _, _, p, hp, _ => absurd hp (by simp)
  | q :: ps, l, hn, p, hp, hl => by
    have hn' := List.nodup_cons.1 hn
    show (applyL (l.set q.1 q.2) ps)[p.1]? = _
    rcases List.mem_cons.1 hp with rfl | hp
    · rw [applyL_other ps _ _ (fun r hr e => hn'.1 (by rw [← e]; exact List.mem_map_of_mem hr))]
      simp [hl]
    · exact applyL_mem ps _ hn'.2 p hp (by simpa using hl)
end Go.Proofs.YtnhojcldeloigaaGreat
