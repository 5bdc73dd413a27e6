/-
  Package disk: countDown, Write.
-/
import Derived.Test.YtnhojcldeloigaaGreatDiskG
import Derived.StillTailTactics
namespace Go.Proofs.YtnhojcldeloigaaGreat
open Go.RowKit
set_option maxRecDepth 100000

section
variable {w w1 w2 wr : World} {F E F1 E1 : Nat → Prop} {g : Nat} {s : D} {gk ck gs cs : Nat} {pv hv : Value}
theorem DkAt.field (h : DkAt w F E g s gk ck gs cs pv hv) (i : Nat) (v : Value) (a wr : Nat)
    (hc : (#[.int .i64 (s.size : Int), .slice (some ⟨gk, 0, none⟩) s.kept.length ck, .slice (some ⟨gs, 0, none⟩) s.kept.length cs, pv, .int .i64 (s.writes : Int), .bool s.off, .int .i64 (s.armed : Int), hv] : Array Value).setIfInBounds i v
      = #[.int .i64 (s.size : Int), .slice (some ⟨gk, 0, none⟩) s.kept.length ck, .slice (some ⟨gs, 0, none⟩) s.kept.length cs, pv, .int .i64 (wr : Int), .bool s.off, .int .i64 (a : Int), hv]) :
    DkAt (w.setCell ⟨g, i, none⟩ v) F E g { s with armed := a, writes := wr } gk ck gs cs pv hv ∧ Only F w (w.setCell ⟨g, i, none⟩ v) := by
  have k : Only (fun i => i = g) w (w.setCell ⟨g, i, none⟩ v) := (Only.refl (fun i => i = g) w).setCell (p := ⟨g, i, none⟩) (fun _ => rfl) _
  have hs := h.has.set i v
  rw [hc] at hs
  exact ⟨⟨hs, h.kept.only k (fun e => h.neK e.symm), h.seen.only k (fun e => h.neS e.symm), owns_only h.pend k (fun i hi e => (h.pne i hi).1 e), h.keep.only k (fun i _ hE e => h.apart i hE (by rw [e]; exact h.fg)),
    h.ne, h.fg, h.fk, h.fs, h.fp, fun i hi => Nat.lt_of_lt_of_le (h.lt i hi) k.size, fun i hi => Nat.lt_of_lt_of_le (h.lte i hi) k.size, h.apart, ⟨h.ok.pos, h.ok.most, h.ok.small, h.ok.sect, h.ok.long, h.ok.longp⟩⟩, k.mono (fun i _ e => by rw [e]; exact h.fg)⟩
theorem DkStep.trans (hF : ∀ i, F1 i → F i ∨ w.heap.size ≤ i) (hE : ∀ i, E1 i → E i ∨ w.heap.size ≤ i) (k : Only F w w1) (h : DkStep w1 F1 E1 g s w2) : DkStep w F E g s w2 := by
  obtain ⟨F2, E2, d, f, e, o⟩ := h
  have hs := k.size
  refine ⟨F2, E2, d, fun i hi => ?_, fun i hi => ?_, k.trans o (fun i hi h1 => ?_)⟩
  · rcases f i hi with h | h
    · exact hF i h
    · right; omega
  · rcases e i hi with h | h
    · exact hE i h
    · right; omega
  · rcases hF i h1 with h | h
    · exact h
    · omega
/-- What Caught lays and sets is none of the disk's. -/
theorem DkStep.caught (k : Only (fun _ => False) w w1) (h : DkStep w1 F E g s w2) (hF : ∀ i, F i → i < w.heap.size) (hE : ∀ i, E i → i < w.heap.size) {q : Nat} (hq : w.heap.size ≤ q ∧ q < w1.heap.size) (u : Value) : DkStep w F E g s (w2.setCell ⟨q, 0, none⟩ u) := by
  obtain ⟨F2, E2, d, f, e, o⟩ := h
  have hs := k.size
  have k2 : Only (fun i => i = q) w2 (w2.setCell ⟨q, 0, none⟩ u) := (Only.refl (fun i => i = q) w2).setCell (p := ⟨q, 0, none⟩) (fun _ => rfl) _
  refine ⟨F2, E2, d.only k2 (fun i _ hi => ⟨fun h => ?_, fun h => ?_⟩), fun i hi => ?_, fun i hi => ?_, ((k.mono (T := F) (fun _ _ h => h.elim)).trans o (fun _ _ h => h)).setCell (p := ⟨q, 0, none⟩) (fun h => absurd h (by simp; omega)) u⟩
  · rcases f i h with h | h
    · have := hF i h
      omega
    · omega
  · rcases e i h with h | h
    · have := hE i h
      omega
    · omega
  · rcases f i hi with h | h
    · exact .inl h
    · right; omega
  · rcases e i hi with h | h
    · exact .inl h
    · right; omega
theorem DkStep.lift (k : Only (fun _ => False) w w1) (h : DkStep w1 F E g s w2) : DkStep w F E g s w2 := DkStep.trans (fun _ h => .inl h) (fun _ h => .inl h) (k.mono (fun _ _ h => h.elim)) h
theorem Dk.drew (h : Dk w F E g s) : Dk w.drew F E g s := h.only (S := fun _ => False) (Only.refl _ w).drew (fun _ _ h => h.elim)
end

def D.count (s : D) : D := if s.armed = 0 then s else if s.armed = 1 then s.cut s.keep else { s with armed := s.armed - 1 }
set_option maxHeartbeats 1000000 in
theorem countdown_any (F E : Nat → Prop) (g : Nat) (s : D) (w : World) (h : Dk w F E g s) (hn : s.pend.length ≤ 1000000) (ha : s.armed ≤ 9223372036854775807) :
    Calls Tryz.prog 101 #[.pointer (some ⟨g, 0, none⟩)] w fun e w' => e = .returned (.tuple #[]) ∧ DkStep w F E g s.count w' := by
  have hsame := h.same
  obtain ⟨gk, ck, gs, cs, pv, hv, h⟩ := h
  have c6 := h.has.cell 6
  have f6 := h.has.frozen 6
  simp at c6
  by_cases h0 : s.armed = 0
  · have R : Hid (DkStep w F E g s.count w) := by
      show DkStep _ _ _ _ _ _
      rw [D.count, if_pos h0]
      exact hsame
    rw [h0] at c6
    clear h hsame f6 h0 ha
    go_enter Tryz.func101, Tryz.ntmps101
    go_wp2
    refine bodyPost_ret (results_none rfl _ _ _) rfl ?_
    exact ⟨rfl, R.out⟩
  · by_cases h1 : s.armed = 1
    · obtain ⟨hd, ko⟩ := h.field 6 (.int .i64 0) 0 s.writes rfl
      have C := Lib.hid (cut_any F E E g _ s.keep hv _ hd.dk hd.keep h.apart hn)
      have hc : s.count = D.cut { s with armed := 0, writes := s.writes } s.keep := by
        rw [D.count, if_neg h0, if_pos h1]
        rfl
      have R : Hid (∀ w', DkStep (w.setCell ⟨g, 6, none⟩ (.int .i64 0)) F E g (D.cut { s with armed := 0, writes := s.writes } s.keep) w' → DkStep w F E g s.count w') := by
        intro w' hw
        rw [hc]
        exact DkStep.trans (fun _ h => .inl h) (fun _ h => .inl h) ko hw
      have d6 := hd.has.cell 6
      have d7 := hd.has.cell 7
      obtain ⟨Ah, ch, rfl, _⟩ := h.keep
      rw [h1] at c6
      simp at c6 d6 d7
      clear h hsame hd ko hc h0 h1 ha
      go_enter Tryz.func101, Tryz.ntmps101
      go_wp2_with fail
      refine C.out.mono ?_
      rintro e w' ⟨rfl, hw⟩
      have R2 := Lib.hid (R.out w' hw)
      clear hw R C
      go_wp2
      go_end0
      exact ⟨rfl, R2.out⟩
    · obtain ⟨z, hz⟩ : ∃ z : Int, z = (s.armed : Int) := ⟨_, rfl⟩
      obtain ⟨z1, hz1⟩ : ∃ z : Int, z = ((s.armed - 1 : Nat) : Int) := ⟨_, rfl⟩
      obtain ⟨hd, ko⟩ := h.field 6 (.int .i64 z1) (s.armed - 1) s.writes (by rw [hz1]; rfl)
      have hc : s.count = { s with armed := s.armed - 1, writes := s.writes } := by rw [D.count, if_neg h0, if_neg h1]
      have R : Hid (DkStep w F E g s.count (w.setCell ⟨g, 6, none⟩ (.int .i64 z1))) := by
        show DkStep _ _ _ _ _ _
        rw [hc]
        exact ⟨F, E, hd.dk, fun _ h => .inl h, fun _ h => .inl h, ko⟩
      have d6 := hd.has.cell 6
      simp only [← hz1] at d6
      simp at d6
      rw [← hz] at c6
      have hne : ¬ (z = 0) := by omega
      have hne1 : ¬ (z1 = 0) := by omega
      have hw : IntKind.i64.wrap (z - 1) = z1 := by rw [IntWalk.i64_in _ (by omega)]; omega
      clear h hsame hd ko hc h0 h1 ha hz hz1
      go_enter Tryz.func101, Tryz.ntmps101
      go_wp2
      go_end0
      exact ⟨rfl, R.out⟩
end Go.Proofs.YtnhojcldeloigaaGreat
