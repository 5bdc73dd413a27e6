/-
  Layer 8, pure: what Format and Commit leave of a disk, wherever the power goes.
-/
import Derived.Test.YtnhojcldeloigaaGreatPagesS
namespace Go.Proofs.YtnhojcldeloigaaGreat
open Go.RowKit
set_option maxRecDepth 100000

theorem pieces_flat8 {z : Nat} : ∀ (m : Nat) (b : List UInt8), b.length = m * z → ((List.range m).map (piece z b)).flatten = b
  | 0, b, h => by simp at h; simp [h]
  | m + 1, b, h => by
    have e := pieces_flat8 (z := z) m (b.drop z) (by rw [List.length_drop, h, Nat.succ_mul]; omega)
    rw [List.range_succ_eq_map, List.map_cons, List.flatten_cons, List.map_map]
    have e2 : (List.range m).map (piece z b ∘ Nat.succ) = (List.range m).map (piece z (b.drop z)) := List.map_congr_left fun i _ => by
      simp only [Function.comp, piece, List.drop_drop]
      congr 2
      rw [Nat.succ_mul]
      omega
    rw [e2, e]
    simp [piece]

/-! ### the pages' turns -/
theorem stepsS_length : ∀ (ps : List Nat) (sl : List UInt8), (stepsS ps sl).length = sl.length
  | [], _ => rfl
  | p :: ps, sl => by rw [stepsS, stepsS_length ps, putS_length]
theorem slotOf_steps : ∀ (ps : List Nat) (sl : List UInt8), ps.Nodup → (∀ p ∈ ps, p / 4 < sl.length) → ∀ q, slotOf (stepsS ps sl) q = if q ∈ ps then freeS (slotOf sl q) else slotOf sl q
  | [], _, _, _, q => by simp [stepsS]
  | p :: ps, sl, hn, hl, q => by
    have hn' := List.nodup_cons.1 hn
    have hp := hl p (List.mem_cons_self ..)
    rw [stepsS, slotOf_steps ps _ hn'.2 (fun r hr => by rw [putS_length]; exact hl r (List.mem_cons_of_mem _ hr)), slotOf_putS sl p _ q hp (freeS_cases _).2.2.1]
    by_cases hq : q = p
    · subst hq
      rw [if_neg hn'.1, if_pos rfl, if_pos (List.mem_cons_self ..)]
    · rw [if_neg hq]
      by_cases hm : q ∈ ps
      · rw [if_pos hm, if_pos (List.mem_cons_of_mem _ hm)]
      · rw [if_neg hm, if_neg (fun h => (List.mem_cons.1 h).elim hq hm)]
def BG.storeN (g : BG) (ch : Nat → Option (List UInt8)) (sl : List UInt8) (ps : List Nat) : List (Nat × List UInt8) := ps.map fun p => (g.at_ + g.slotP p (freeS (slotOf sl p)), cpy g.z ((ch p).getD []))
def BG.listN (g : BG) (l : Nat) (sl : List UInt8) : List (Nat × List UInt8) := (List.range g.M).map fun j => (g.at_ + (g.listP l + j), piece g.z sl j)
def toI (ws : List (Nat × List UInt8)) : List (Int × List UInt8) := ws.map fun p => ((p.1 : Int), p.2)
theorem storeW_N (g : BG) (ch : Nat → Option (List UInt8)) : ∀ (ps : List Nat) (sl : List UInt8), ps.Nodup → (∀ p ∈ ps, p / 4 < sl.length) → g.storeW ch ps sl = toI (g.storeN ch sl ps)
  | [], _, _, _ => rfl
  | p :: ps, sl, hn, hl => by
    have hn' := List.nodup_cons.1 hn
    have hp := hl p (List.mem_cons_self ..)
    rw [BG.storeW, storeW_N g ch ps _ hn'.2 (fun r hr => by rw [putS_length]; exact hl r (List.mem_cons_of_mem _ hr))]
    simp only [BG.storeN, toI, List.map_cons, List.map_map]
    congr 1
    refine List.map_congr_left fun q hq => ?_
    have hne : ¬ q = p := fun e => hn'.1 (e ▸ hq)
    simp only [Function.comp]
    rw [slotOf_putS sl p _ q hp (freeS_cases _).2.2.1, if_neg hne]
theorem listW_N (g : BG) (l : Nat) (sl : List UInt8) : g.listW l sl g.M = toI (g.listN l sl) := by
  simp [BG.listW, BG.listN, toI, List.map_map, Function.comp]
def finD (g : BG) (r : Int × D) (l : Nat) : Int × D := andD (andD (andD r D.sync) (fun s => s.write ((g.at_ + 0 : Nat) : Int) (rootB g.z g.n g.k l))) D.sync
theorem turn_fin (g : BG) (s : D) (l : Nat) (sl : List UInt8) : turnD g s l sl = finD g (s.runs (toI (g.listN l sl))) l := by
  rw [← listW_N]
  rfl
theorem store_fin (g : BG) (s : D) (l : Nat) (sl : List UInt8) (ch : Nat → Option (List UInt8)) (ps : List Nat) (hn : ps.Nodup) (hl : ∀ p ∈ ps, p / 4 < sl.length) :
    storeD g s l sl ch ps = finD g (s.runs (toI (g.storeN ch sl ps ++ g.listN l (stepsS ps sl)))) l := by
  unfold storeD
  rw [storeW_N g ch ps sl hn hl, show toI (g.storeN ch sl ps ++ g.listN l (stepsS ps sl)) = toI (g.storeN ch sl ps) ++ toI (g.listN l (stepsS ps sl)) by simp [toI], D.runs_append]
  by_cases h : (s.runs (toI (g.storeN ch sl ps))).1 = 0
  · rw [andD_ok _ h, if_pos h, turn_fin]
  · rw [andD_no _ h, if_neg h]
    unfold finD
    rw [andD_no _ h, andD_no _ h, andD_no _ h]

/-! ### what is left -/
theorem andD_zero (d : D) (f : D → Int × D) : andD (0, d) f = f d := rfl
/-- It went through. -/
structure Done (g : BG) (s : D) (ws : List (Nat × List UInt8)) (l : Nat) (r : Int × D) : Prop where
  zero : r.1 = 0
  on : r.2.off = false
  pend : r.2.pend = []
  kept : r.2.kept = (applyL s.kept ws).set g.at_ (rootB g.z g.n g.k l)
  size : r.2.size = s.size
  armed : r.2.armed ≤ s.armed
  ok : r.2.Ok
/-- The power went. -/
structure Down (T : Nat → Prop) (s : D) (r : Int × D) : Prop where
  down : r.1 = 22
  off : r.2.off = true
  pend : r.2.pend = []
  kept : Agree T s.kept r.2.kept
  size : r.2.size = s.size
  ok : r.2.Ok
  armed : s.armed ≠ 0
/-- Where nothing is armed it goes through. -/
theorem runs_unarmed : ∀ (ws : List (Nat × List UInt8)) (s : D), s.off = false → s.armed = 0 → (∀ p ∈ ws, p.1 < s.kept.length ∧ p.2.length = s.size) → (s.runs (toI ws)).1 = 0 ∧ (s.runs (toI ws)).2.armed = 0
  | [], s, _, ha, _ => ⟨rfl, ha⟩
  | p :: ws, s, ho, ha, hw => by
    obtain ⟨h1, h2⟩ := hw p (List.mem_cons_self ..)
    have e := D.write_on ho h1 h2
    rw [if_neg (by omega)] at e
    simp only [toI, List.map_cons, D.runs]
    rw [if_pos (by rw [e]), e]
    exact runs_unarmed ws (s.put p.1 p.2) ho (by show s.armed - 1 = 0; omega) (fun q hq => hw q (List.mem_cons_of_mem _ hq))
theorem fin_pure {g : BG} {s : D} {T : Nat → Prop} (ws : List (Nat × List UInt8)) (l : Nat) (hok : s.Ok) (ho : s.off = false) (hp : s.pend = []) (hw : ∀ p ∈ ws, p.1 < s.kept.length ∧ p.2.length = s.size ∧ T p.1) (hat : g.at_ < s.kept.length) (hrl : (rootB g.z g.n g.k l).length = s.size) :
    Done g s ws l (finD g (s.runs (toI ws)) l) ∨ Down T s (finD g (s.runs (toI ws)) l) := by
  have h0 : OnT s T s := ⟨hok, ho, rfl, rfl, fun p h => by rw [hp] at h; cases h⟩
  rcases runs_on ws s h0 hw with ⟨q1, q2, q3, q4, q5⟩ | ⟨q1, q2, q3, q4⟩
  · change (s.runs (toI ws)).1 = 0 at q1
    obtain ⟨t, ht⟩ : ∃ t, t = (s.runs (toI ws)).2 := ⟨_, rfl⟩
    change OnT s T (s.runs (toI ws)).2 at q2
    change (s.runs (toI ws)).2.pend = _ at q3
    change (s.runs (toI ws)).2.armed ≤ _ at q5
    rw [← ht] at q2 q3 q5
    have e1 : t.sync = (0, { t with kept := t.seen, pend := [] }) := by unfold D.sync; rw [if_neg (by rw [q2.on]; decide)]
    obtain ⟨u, hu⟩ : ∃ u : D, u = { t with kept := t.seen, pend := [] } := ⟨_, rfl⟩
    have uo : u.off = false := by rw [hu]; exact q2.on
    have uk : u.kept = applyL s.kept ws := by rw [hu]; show applyL t.kept t.pend = _; rw [q3, q2.kept, hp, List.nil_append]
    have up : u.pend = [] := by rw [hu]
    have us : u.size = s.size := by rw [hu]; exact q2.size
    have ua : u.armed ≤ s.armed := by rw [hu]; exact q5
    have uok : u.Ok := by rw [hu]; exact q2.ok.synced
    have ukl : u.kept.length = s.kept.length := by rw [uk, applyL_length]
    have ag : Agree T s.kept u.kept := by rw [uk]; exact agree_apply T ws s.kept (fun p h => (hw p h).2.2)
    have hat' : g.at_ + 0 < u.kept.length := by omega
    have ew := D.write_on (s := u) (b := rootB g.z g.n g.k l) uo hat' (by rw [us]; exact hrl)
    have ef : finD g (s.runs (toI ws)) l = andD (u.write ((g.at_ + 0 : Nat) : Int) (rootB g.z g.n g.k l)) D.sync := by
      unfold finD
      rw [andD_ok _ q1, ← ht, e1, andD_zero, ← hu]
    by_cases ha : u.armed = 1
    · right
      rw [if_pos ha] at ew
      have : finD g (s.runs (toI ws)) l = (22, u.cut u.keep) := by rw [ef, ew, andD_no _ (by simp)]
      rw [this]
      exact ⟨rfl, rfl, rfl, by show Agree T s.kept (applyL u.kept (chosen u.pend u.keep)); rw [up]; exact ag, us, uok.cut _, by omega⟩
    · left
      rw [if_neg ha] at ew
      have e3 : (u.put (g.at_ + 0) (rootB g.z g.n g.k l)).sync = (0, { u.put (g.at_ + 0) (rootB g.z g.n g.k l) with kept := (u.put (g.at_ + 0) (rootB g.z g.n g.k l)).seen, pend := [] }) := by unfold D.sync; rw [if_neg (by show ¬ u.off = true; rw [uo]; decide)]
      have : finD g (s.runs (toI ws)) l = (0, { u.put (g.at_ + 0) (rootB g.z g.n g.k l) with kept := (u.put (g.at_ + 0) (rootB g.z g.n g.k l)).seen, pend := [] }) := by rw [ef, ew, andD_zero, e3]
      rw [this]
      refine ⟨rfl, uo, rfl, ?_, us, ?_, ?_⟩
      · show applyL u.kept (u.pend ++ [(g.at_ + 0, rootB g.z g.n g.k l)]) = _
        rw [up, uk]
        rfl
      · show u.armed - 1 ≤ _
        omega
      · exact (uok.put hat' (by rw [us]; exact hrl)).synced
  · right
    have e : finD g (s.runs (toI ws)) l = s.runs (toI ws) := by
      have hne : (s.runs (toI ws)).1 ≠ 0 := by
        change (s.runs (toI ws)).1 = 22 at q1
        rw [q1]
        decide
      unfold finD
      rw [andD_no _ hne, andD_no _ hne, andD_no _ hne]
    rw [e]
    refine ⟨q1, q2.off, q2.pend, q2.kept, q2.size, q2.ok, fun ha => ?_⟩
    have := (runs_unarmed ws s ho ha (fun p h => ⟨(hw p h).1, (hw p h).2.1⟩)).1
    change (s.runs (toI ws)).1 = 22 at q1
    rw [q1] at this
    cases this
end Go.Proofs.YtnhojcldeloigaaGreat
