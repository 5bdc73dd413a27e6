/-
  Package disk: a disk that a law has made, and what else the law has made; each call, told so.
-/
import Derived.Test.YtnhojcldeloigaaGreatDiskE
import Derived.Test.YtnhojcldeloigaaGreatDiskM
namespace Go.Proofs.YtnhojcldeloigaaGreat
open Go.RowKit Go.Lib
set_option maxRecDepth 100000

/-- A disk that was made behind w; K: blocks of others. -/
def Live (w : World) (K : Nat → Prop) (g : Nat) (s : D) (wr : World) : Prop :=
  ∃ F E, Dk wr F E g s ∧ (∀ i, F i → w.heap.size ≤ i ∧ ¬ K i) ∧ (∀ i, E i → w.heap.size ≤ i ∧ ¬ K i) ∧ Below w.heap.size w wr ∧ (∀ i, K i → i < wr.heap.size)
/-- What a call answers and leaves. -/
def LAns (w : World) (K : Nat → Prop) (g : Nat) (v : Value) (s : D) (wr : World) (e : Ending) (w' : World) : Prop :=
  e = .returned v ∧ Live w K g s w' ∧ Only (fun i => ¬ K i ∧ w.heap.size ≤ i) wr w'
section
variable {w wr w' : World} {K K' S : Nat → Prop} {g : Nat} {s s' : D}
theorem Live.low (h : Live w K g s wr) : Below w.heap.size w wr := by
  obtain ⟨_, _, _, _, _, h, _⟩ := h
  exact h
theorem Live.klt (h : Live w K g s wr) : ∀ i, K i → i < wr.heap.size := by
  obtain ⟨_, _, _, _, _, _, h⟩ := h
  exact h
theorem Live.ok (h : Live w K g s wr) : s.Ok := by
  obtain ⟨_, _, h, _⟩ := h
  exact h.lt.2.2.2.2.2
theorem Live.far (h : Live w K g s wr) (k : Only S wr w') (hS : ∀ i, i < wr.heap.size → S i → K i) (hw : ∀ i, i < w.heap.size → ¬ S i) : Live w K g s w' := by
  obtain ⟨F, E, d, f, e, b, l⟩ := h
  exact ⟨F, E, d.only k (fun i hi hs => ⟨fun hF => (f i hF).2 (hS i hi hs), fun hE => (e i hE).2 (hS i hi hs)⟩), f, e, b.trans (k.below b.size (fun i hi hs => hw i hi hs)), fun i hi => Nat.lt_of_lt_of_le (l i hi) k.size⟩
theorem Live.new (h : Live w K g s wr) (k : Only (fun _ => False) wr w') : Live w K g s w' := h.far k (fun _ _ h => h.elim) (fun _ _ h => h)
theorem Live.below (h : Live w K g s wr) (k : Below wr.heap.size wr w') : Live w K g s w' := h.new ⟨k.os, k.tape, k.output, k.size, fun i hi _ => k.block i hi⟩
/-- What was made since is of others. -/
theorem Live.more (h : Live w K g s wr) (k : Only (fun _ => False) wr w') (hK : ∀ i, K' i → (K i ∨ wr.heap.size ≤ i) ∧ i < w'.heap.size) : Live w K' g s w' := by
  obtain ⟨F, E, d, f, e, b, l⟩ := h
  have dl := d.lt
  refine ⟨F, E, d.only k (fun _ _ h => h.elim), fun i hi => ⟨(f i hi).1, fun hk => ?_⟩, fun i hi => ⟨(e i hi).1, fun hk => ?_⟩, b.trans (k.below b.size (fun _ _ h => h)), fun i hi => (hK i hi).2⟩
  · rcases (hK i hk).1 with h | h
    · exact (f i hi).2 h
    · have := dl.2.2.1 i hi
      omega
  · rcases (hK i hk).1 with h | h
    · exact (e i hi).2 h
    · have := dl.2.2.2.1 i hi
      omega
theorem Live.fewer (h : Live w K g s wr) (hK : ∀ i, K' i → K i) : Live w K' g s wr := h.more (Only.refl _ _) (fun i hi => ⟨.inl (hK i hi), h.klt i (hK i hi)⟩)
theorem Live.step {F E : Nat → Prop} (hf : ∀ i, F i → w.heap.size ≤ i ∧ ¬ K i) (he : ∀ i, E i → w.heap.size ≤ i ∧ ¬ K i) (hb : Below w.heap.size w wr) (hl : ∀ i, K i → i < wr.heap.size) (h : DkStep wr F E g s' w') : Live w K g s' w' ∧ Only (fun i => ¬ K i ∧ w.heap.size ≤ i) wr w' := by
  obtain ⟨F', E', d, f, e, o⟩ := h
  have hs := hb.size
  refine ⟨⟨F', E', d, fun i hi => ?_, fun i hi => ?_, hb.trans (o.below hs (fun i hi h => by have := (hf i h).1; omega)), fun i hi => Nat.lt_of_lt_of_le (hl i hi) o.size⟩, o.mono (fun i _ h => ⟨(hf i h).2, (hf i h).1⟩)⟩
  · rcases f i hi with h | h
    · exact hf i h
    · exact ⟨by omega, fun hk => by have := hl i hk; omega⟩
  · rcases e i hi with h | h
    · exact he i h
    · exact ⟨by omega, fun hk => by have := hl i hk; omega⟩
end
/-- A new disk. -/
theorem Live.made {w wr w' : World} {K : Nat → Prop} {s : D} {v : Value} (hb : Below w.heap.size w wr) (hl : ∀ i, K i → i < wr.heap.size) (h : MadeStep wr wr.heap.size s v w') : ∃ g, v = .pointer (some ⟨g, 0, none⟩) ∧ Live w K g s w' ∧ Below wr.heap.size wr w' := by
  obtain ⟨g, rfl, d, b⟩ := h
  have hs := hb.size
  exact ⟨g, rfl, ⟨_, _, d, fun i hi => ⟨by omega, fun hk => by have := hl i hk; omega⟩, fun _ h => h.elim, hb.trans (b.mono hs), fun i hi => Nat.lt_of_lt_of_le (hl i hi) b.size⟩, b⟩

section
variable (w wr : World) (K : Nat → Prop) (g : Nat) (s : D) (h : Live w K g s wr)
include h
theorem live_write (i : Int) (x : Value) (lo hi : Nat) (b : List UInt8) (hx : SlIs wr lo hi x b) (hhi : hi ≤ wr.heap.size) (hfar : ∀ i, lo ≤ i → i < hi → K i ∨ i < w.heap.size) (hs : s.Small) :
    Calls Tryz.prog 88 #[.pointer (some ⟨g, 0, none⟩), .int .i64 i, x] wr (LAns w K g (.int .i64 (s.write i b).1) (s.write i b).2 wr) := by
  obtain ⟨F, E, d, f, e, hb, l⟩ := h
  refine (write_any F E g lo hi i x b s wr d hx hhi (fun i h1 h2 hF => ?_) hs).mono fun e w' hh => ⟨hh.1, Live.step f (by assumption) hb l hh.2⟩
  have := f i hF
  rcases hfar i h1 h2 with h | h
  · exact this.2 h
  · omega
theorem live_sync (hs : s.Small) : Calls Tryz.prog 77 #[.pointer (some ⟨g, 0, none⟩)] wr (LAns w K g (.int .i64 s.sync.1) s.sync.2 wr) := by
  obtain ⟨F, E, d, f, e, hb, l⟩ := h
  exact (sync_any F E g s wr d hs).mono fun e w' hh => ⟨hh.1, Live.step f (by assumption) hb l hh.2⟩
theorem live_arm (n : Int) (keep : List Bool) (x : Value) (X : Nat → Prop) (hx : RwIs wr X keep.length x (bvs keep)) (hl : keep.length ≤ 1000000) :
    Calls Tryz.prog 19 #[.pointer (some ⟨g, 0, none⟩), .int .i64 n, x] wr (LAns w K g (.tuple #[]) (s.arm n keep) wr) := by
  obtain ⟨F, E, d, f, e, hb, l⟩ := h
  exact (arm_any F E X g n s keep x wr d hx hl).mono fun e w' hh => ⟨hh.1, Live.step f (by assumption) hb l hh.2⟩
theorem live_cut (keep : List Bool) (x : Value) (X : Nat → Prop) (hx : RwIs wr X keep.length x (bvs keep)) (hX : ∀ i, X i → K i ∨ i < w.heap.size) (hs : s.Small) :
    Calls Tryz.prog 18 #[.pointer (some ⟨g, 0, none⟩), x] wr (LAns w K g (.tuple #[]) (s.cut keep) wr) := by
  obtain ⟨F, E, d, f, e, hb, l⟩ := h
  refine (cut_any F E X g s keep x wr d hx (fun i hi hF => ?_) hs.pend).mono fun e w' hh => ⟨hh.1, Live.step f (by assumption) hb l hh.2⟩
  have := f i hF
  rcases hX i hi with h | h
  · exact this.2 h
  · omega
theorem live_on : Calls Tryz.prog 20 #[.pointer (some ⟨g, 0, none⟩)] wr (LAns w K g (.tuple #[]) { s with off := false } wr) := by
  obtain ⟨F, E, d, f, e, hb, l⟩ := h
  exact (on_any F E g s wr d).mono fun e w' hh => ⟨hh.1, Live.step f (by assumption) hb l hh.2⟩
theorem live_off : Calls Tryz.prog 17 #[.pointer (some ⟨g, 0, none⟩)] wr fun e w' => e = .returned (.bool s.off) ∧ wr = w' := by
  obtain ⟨F, E, d, _⟩ := h
  exact off_any F E g s wr d
theorem live_shape : Calls Tryz.prog 67 #[.pointer (some ⟨g, 0, none⟩)] wr fun e w' => e = .returned (.tuple #[.int .i64 (s.kept.length : Int), .int .i64 (s.size : Int)]) ∧ ∃ n, w' = wr.drewN n := by
  obtain ⟨F, E, d, _⟩ := h
  exact shape_any F E g s wr d
theorem live_read (i : Int) : Calls Tryz.prog 71 #[.pointer (some ⟨g, 0, none⟩), .int .i64 i] wr fun e w' => ∃ A c, e = .returned (.tuple #[.slice A (s.read i).2.length c, .int .i64 (s.read i).1]) ∧ SlIs w' wr.heap.size w'.heap.size (.slice A (s.read i).2.length c) (s.read i).2 ∧ Below wr.heap.size wr w' := by
  obtain ⟨F, E, d, _⟩ := h
  refine (read_any F E g i s wr d).mono fun e w' hh => ?_
  obtain ⟨v, rfl, h1, h2⟩ := hh
  obtain ⟨A, c, rfl, r⟩ := id h1
  exact ⟨A, c, rfl, h1, h2⟩
theorem live_bytes : Calls Tryz.prog 23 #[.pointer (some ⟨g, 0, none⟩)] wr fun e w' => ∃ A c, e = .returned (.slice A s.kept.flatten.length c) ∧ SlIs w' wr.heap.size w'.heap.size (.slice A s.kept.flatten.length c) s.kept.flatten ∧ Below wr.heap.size wr w' := by
  obtain ⟨F, E, d, _⟩ := h
  refine (diskbytes_any F E g s wr d).mono fun e w' hh => ?_
  obtain ⟨v, rfl, h1, h2⟩ := hh
  have h3 := owns_SlIs h1
  obtain ⟨A, c, rfl, r⟩ := id h3
  exact ⟨A, c, rfl, h3, h2⟩
end
theorem D.Small.write {s : D} (h : s.Small) (hp : s.pend.length < 1000000) (hw : s.writes < 1000000) (i : Int) (b : List UInt8) : (s.write i b).2.Small := by
  unfold D.write
  split
  · exact h
  · split
    · exact h
    · split
      · exact ⟨by simp [D.cut], by simp [D.cut], h.writes⟩
      · exact ⟨by simp [D.put]; omega, by have := h.armed; simp only [D.put]; omega, by simp only [D.put]; omega⟩
end Go.Proofs.YtnhojcldeloigaaGreat
