/-
  Layer 8, pure: Format and Commit, whole.
-/
import Derived.Test.YtnhojcldeloigaaGreatPagesU
namespace Go.Proofs.YtnhojcldeloigaaGreat
open Go.RowKit
set_option maxRecDepth 100000

def inBook (g : BG) (i : Nat) : Prop := g.at_ ≤ i ∧ i < g.at_ + g.n
theorem Rep.congr {g : BG} {K : List (List UInt8)} {l : Nat} {sl : List UInt8} {P Q : Nat → List UInt8} (h : Rep g K l sl P) (e : ∀ p, p < g.k → Q p = P p) : Rep g K l sl Q := ⟨h.root, h.two, h.slots, h.len, h.ok, fun p hp => (e p hp).trans (h.page p hp)⟩
theorem D.sync_same {t : D} (ho : t.off = false) (hp : t.pend = []) : t.sync = (0, t) := by
  obtain ⟨a, b, c, d, e, f, k⟩ := t
  simp only at ho hp
  subst ho hp
  simp [D.sync, D.seen, applyL]
/-- A disk with a book, between calls: all that was asked of it lies there. -/
structure Rest (g : BG) (s : D) (P : Nat → List UInt8) : Prop where
  on : s.off = false
  pend : s.pend = []
  size : g.z = s.size
  ok : g.Ok s.kept.length
  rep : ∃ l sl, Rep g s.kept l sl P
theorem Rest.seen {g : BG} {s : D} {P : Nat → List UInt8} (h : Rest g s P) : s.seen = s.kept := by
  unfold D.seen
  rw [h.pend]
  rfl
theorem format_out {g : BG} {s : D} (hok : s.Ok) (ok : g.Ok s.kept.length) (hz : g.z = s.size) (ho : s.off = false) (hp : s.pend = []) (ha : s.armed = 0) :
    (formD g s).1 = 0 ∧ (formD g s).2.armed = 0 ∧ (formD g s).2.Ok ∧ Rest g (formD g s).2 (fun _ => zpage g.z) ∧ Agree (inBook g) s.kept (formD g s).2.kept := by
  have hl : newL s g.at_ < 2 := by unfold newL; omega
  have hf := ok.fit
  have hr := ok.room
  have hz1 := ok.z1
  have hM := listN_mem (sl := zslots g) ok hl (zslots_len g)
  unfold formD
  rw [turn_fin]
  rcases fin_pure (g := g) (s := s) (T := fun _ => True) (g.listN (newL s g.at_) (zslots g)) (newL s g.at_) hok ho hp (fun q hq => by
    obtain ⟨j, hj, rfl, h1, h2⟩ := hM q hq
    exact ⟨by show g.at_ + _ < _; omega, by rw [← hz]; exact h2, trivial⟩) (by omega) (by rw [rootB_len (by omega)]; exact hz) with h | h
  · have hk : (finD g (s.runs (toI (g.listN (newL s g.at_) (zslots g)))) (newL s g.at_)).2.kept = setR g s.kept (g.listN (newL s g.at_) (zslots g)) (newL s g.at_) := h.kept
    refine ⟨h.zero, by have := h.armed; omega, h.ok, ⟨h.on, h.pend, by rw [h.size]; exact hz, ?_, newL s g.at_, zslots g, ?_⟩, ?_⟩
    · rw [hk]
      unfold setR
      rw [List.length_set, applyL_length]
      exact ok
    · rw [hk]
      exact format_rep ok hl
    · rw [hk]
      exact agree_setR (fun q hq => by
        obtain ⟨j, hj, rfl, h1, h2⟩ := hM q hq
        exact ⟨by show g.at_ ≤ g.at_ + _; omega, by show g.at_ + _ < _; omega⟩) (by omega)
  · exact absurd ha h.armed
theorem dead_in {g : BG} {l : Nat} {sl : List UInt8} {i : Nat} (h : deadT g l sl i) : inBook g i := by
  obtain ⟨⟨j, rfl, h1, _⟩, _⟩ := h
  exact ⟨by omega, by omega⟩
/-- What Commit leaves of a disk and its book. -/
theorem commit_out {g : BG} {s : D} {l : Nat} {sl : List UInt8} {P : Nat → List UInt8} {ch : Nat → Option (List UInt8)} (hok : s.Ok) (ok : g.Ok s.kept.length) (hz : g.z = s.size) (ho : s.off = false) (hp : s.pend = []) (hr : Rep g s.kept l sl P) (hch : ∀ p bs, ch p = some bs → bs.length = g.z - 16) :
    ((commitD g s l sl ch).1 = 0 ∧ (commitD g s l sl ch).2.Ok ∧ Rest g (commitD g s l sl ch).2 (fun p => (ch p).getD (P p)) ∧ (commitD g s l sl ch).2.armed ≤ s.armed ∧ Agree (inBook g) s.kept (commitD g s l sl ch).2.kept) ∨
    ((commitD g s l sl ch).1 = 22 ∧ (commitD g s l sl ch).2.Ok ∧ (commitD g s l sl ch).2.off = true ∧ (commitD g s l sl ch).2.pend = [] ∧ (commitD g s l sl ch).2.size = s.size ∧ Rep g (commitD g s l sl ch).2.kept l sl P ∧ s.armed ≠ 0 ∧ Agree (inBook g) s.kept (commitD g s l sl ch).2.kept) := by
  have hf := ok.fit
  have hrm := ok.room
  have hz1 := ok.z1
  have htwo := hr.two
  have hk : ∀ p ∈ keysOf ch g.k, p < g.k := fun p hp => (keysOf_mem.1 hp).1
  unfold commitD
  by_cases h0 : keysOf ch g.k = []
  · rw [if_pos h0, andD_zero, D.sync_same ho hp]
    refine .inl ⟨rfl, hok, ⟨ho, hp, hz, ok, l, sl, hr.congr fun p hp => ?_⟩, Nat.le_refl _, Agree.refl _ _⟩
    have : ch p = none := by
      cases hc : ch p with
      | none => rfl
      | some b =>
        have := keysOf_mem.2 ⟨hp, show (ch p).isSome = true by rw [hc]; rfl⟩
        rw [h0] at this
        cases this
    rw [this]
    rfl
  · rw [if_neg h0, store_fin g s (1 - l) sl ch _ (keysOf_nodup ch g.k) (fun p hp => (hr.slot ok (hk p hp)).2)]
    have hw := commN_ok (ch := ch) ok hr hk
    rcases fin_pure (g := g) (s := s) (T := deadT g l sl) (g.commN ch l sl (keysOf ch g.k)) (1 - l) hok ho hp (fun q hq => by
      have := hw q hq
      exact ⟨this.1, by rw [← hz]; exact this.2.1, this.2.2⟩) (by omega) (by rw [rootB_len (by omega)]; exact hz) with h | h
    · change Done g s _ _ (finD g (s.runs (toI (g.storeN ch sl (keysOf ch g.k) ++ g.listN (1 - l) (stepsS (keysOf ch g.k) sl)))) (1 - l)) at h
      generalize finD g (s.runs (toI (g.storeN ch sl (keysOf ch g.k) ++ g.listN (1 - l) (stepsS (keysOf ch g.k) sl)))) (1 - l) = r at h ⊢
      have hkp : r.2.kept = setR g s.kept (g.commN ch l sl (keysOf ch g.k)) (1 - l) := h.kept
      rw [andD_ok _ h.zero, D.sync_same h.on h.pend]
      refine .inl ⟨rfl, h.ok, ⟨h.on, h.pend, by rw [h.size]; exact hz, ?_, 1 - l, stepsS (keysOf ch g.k) sl, ?_⟩, h.armed, ?_⟩
      · rw [hkp]
        unfold setR
        rw [List.length_set, applyL_length]
        exact ok
      · rw [hkp]
        refine (commit_rep (ch := ch) ok hr (keysOf_nodup ch g.k) hk).congr fun p hp => ?_
        by_cases hm : p ∈ keysOf ch g.k
        · obtain ⟨b, hb⟩ := Option.isSome_iff_exists.1 (keysOf_mem.1 hm).2
          rw [if_pos hm, hb]
          exact (take_cpy (hch p b hb) (by omega)).symm
        · rw [if_neg hm]
          have : ch p = none := by
            cases hc : ch p with
            | none => rfl
            | some b => exact absurd (keysOf_mem.2 ⟨hp, show (ch p).isSome = true by rw [hc]; rfl⟩) hm
          rw [this]
          rfl
      · rw [hkp]
        exact agree_setR (fun q hq => dead_in (hw q hq).2.2) (by omega)
    · change Down _ s (finD g (s.runs (toI (g.storeN ch sl (keysOf ch g.k) ++ g.listN (1 - l) (stepsS (keysOf ch g.k) sl)))) (1 - l)) at h
      generalize finD g (s.runs (toI (g.storeN ch sl (keysOf ch g.k) ++ g.listN (1 - l) (stepsS (keysOf ch g.k) sl)))) (1 - l) = r at h ⊢
      rw [andD_no _ (by rw [h.down]; decide)]
      exact .inr ⟨h.down, h.ok, h.off, h.pend, h.size, hr.agree h.kept (fun i hi hd => hd.2 hi), h.armed, h.kept.mono fun i hi => dead_in hi⟩
end Go.Proofs.YtnhojcldeloigaaGreat
