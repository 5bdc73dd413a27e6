/-
  Layer 8: a disk and a book on it that a law has made, and what else the law has made; each call, told so.
-/
import Derived.Test.YtnhojcldeloigaaGreatPackPagB
import Derived.Test.YtnhojcldeloigaaGreatDiskN
namespace Go.Proofs.YtnhojcldeloigaaGreat
open Go.RowKit Go.Lib Go.Maps
set_option maxRecDepth 100000

/-- A book on a disk, both made behind w; K: blocks of others. -/
def Lv (w : World) (K : Nat → Prop) (gd : Nat) (s : D) (gb : Nat) (g : BG) (ch : Nat → Option (List UInt8)) (wr : World) : Prop :=
  ∃ F E G, St wr F E G gd s gb g ch ∧ (∀ i, F i → w.heap.size ≤ i ∧ ¬ K i) ∧ (∀ i, E i → w.heap.size ≤ i ∧ ¬ K i) ∧ (∀ i, G i → w.heap.size ≤ i ∧ ¬ K i) ∧ Below w.heap.size w wr ∧ (∀ i, K i → i < wr.heap.size)
/-- What a call answers and leaves. -/
def BAns (w : World) (K : Nat → Prop) (gd : Nat) (v : Value) (s : D) (gb : Nat) (g : BG) (ch : Nat → Option (List UInt8)) (wr : World) (e : Ending) (w' : World) : Prop :=
  e = .returned v ∧ Lv w K gd s gb g ch w' ∧ Only (fun i => ¬ K i ∧ w.heap.size ≤ i) wr w'
section
variable {w wr w' : World} {K K' S : Nat → Prop} {gd gb : Nat} {s s' : D} {g : BG} {ch ch' : Nat → Option (List UInt8)}
theorem Lv.live (h : Lv w K gd s gb g ch wr) : Live w K gd s wr := by
  obtain ⟨F, E, G, d, f, e, r, b, l⟩ := h
  exact ⟨F, E, d.dk, f, e, b, l⟩
theorem Lv.low (h : Lv w K gd s gb g ch wr) : Below w.heap.size w wr := h.live.low
theorem Lv.klt (h : Lv w K gd s gb g ch wr) : ∀ i, K i → i < wr.heap.size := h.live.klt
theorem Lv.ok (h : Lv w K gd s gb g ch wr) : s.Ok := h.live.ok
theorem Lv.gok (h : Lv w K gd s gb g ch wr) : g.Ok s.kept.length ∧ g.z = s.size := by
  obtain ⟨_, _, _, d, _⟩ := h
  exact ⟨d.ok, d.size⟩
theorem Lv.far (h : Lv w K gd s gb g ch wr) (k : Only S wr w') (hS : ∀ i, i < wr.heap.size → S i → K i) (hw : ∀ i, i < w.heap.size → ¬ S i) : Lv w K gd s gb g ch w' := by
  obtain ⟨F, E, G, d, f, e, r, b, l⟩ := h
  exact ⟨F, E, G, d.only k (fun i hi hs => ⟨fun hF => (f i hF).2 (hS i hi hs), fun hE => (e i hE).2 (hS i hi hs), fun hG => (r i hG).2 (hS i hi hs)⟩), f, e, r, b.trans (k.below b.size (fun i hi hs => hw i hi hs)), fun i hi => Nat.lt_of_lt_of_le (l i hi) k.size⟩
theorem Lv.new (h : Lv w K gd s gb g ch wr) (k : Only (fun _ => False) wr w') : Lv w K gd s gb g ch w' := h.far k (fun _ _ h => h.elim) (fun _ _ h => h)
theorem Lv.below (h : Lv w K gd s gb g ch wr) (k : Below wr.heap.size wr w') : Lv w K gd s gb g ch w' := h.new ⟨k.os, k.tape, k.output, k.size, fun i hi _ => k.block i hi⟩
theorem Lv.more (h : Lv w K gd s gb g ch wr) (k : Only (fun _ => False) wr w') (hK : ∀ i, K' i → (K i ∨ wr.heap.size ≤ i) ∧ i < w'.heap.size) : Lv w K' gd s gb g ch w' := by
  obtain ⟨F, E, G, d, f, e, r, b, l⟩ := h
  obtain ⟨lF, lE, lG⟩ := d.lts
  have q : ∀ X : Nat → Prop, (∀ i, X i → w.heap.size ≤ i ∧ ¬ K i) → (∀ i, X i → i < wr.heap.size) → ∀ i, X i → w.heap.size ≤ i ∧ ¬ K' i := fun X x lx i hi => ⟨(x i hi).1, fun hk => by
    rcases (hK i hk).1 with h | h
    · exact (x i hi).2 h
    · have := lx i hi
      omega⟩
  exact ⟨F, E, G, d.new k, q F f lF, q E e lE, q G r lG, b.trans (k.below b.size (fun _ _ h => h)), fun i hi => (hK i hi).2⟩
theorem Lv.fewer (h : Lv w K gd s gb g ch wr) (hK : ∀ i, K' i → K i) : Lv w K' gd s gb g ch wr := h.more (Only.refl _ _) (fun i hi => ⟨.inl (hK i hi), h.klt i (hK i hi)⟩)
theorem Lv.step {F E G : Nat → Prop} (hf : ∀ i, F i → w.heap.size ≤ i ∧ ¬ K i) (he : ∀ i, E i → w.heap.size ≤ i ∧ ¬ K i) (hr : ∀ i, G i → w.heap.size ≤ i ∧ ¬ K i) (hb : Below w.heap.size w wr) (hl : ∀ i, K i → i < wr.heap.size) (h : StStep wr F E G gd s' gb g ch' w') : Lv w K gd s' gb g ch' w' ∧ Only (fun i => ¬ K i ∧ w.heap.size ≤ i) wr w' := by
  obtain ⟨F', E', G', d, f, e, r, o⟩ := h
  have hs := hb.size
  have q : ∀ X X' : Nat → Prop, (∀ i, X i → w.heap.size ≤ i ∧ ¬ K i) → (∀ i, X' i → X i ∨ wr.heap.size ≤ i) → ∀ i, X' i → w.heap.size ≤ i ∧ ¬ K i := fun X X' x x' i hi => by
    rcases x' i hi with h | h
    · exact x i h
    · exact ⟨by omega, fun hk => by have := hl i hk; omega⟩
  refine ⟨⟨F', E', G', d, q F F' hf f, q E E' he e, q G G' hr r, hb.trans (o.below hs (fun i hi h => ?_)), fun i hi => Nat.lt_of_lt_of_le (hl i hi) o.size⟩, o.mono (fun i _ h => ?_)⟩
  · rcases h with h | h
    · have := (hf i h).1
      omega
    · have := (hr i h).1
      omega
  · rcases h with h | h
    · exact ⟨(hf i h).2, (hf i h).1⟩
    · exact ⟨(hr i h).2, (hr i h).1⟩
end
section
variable (w wr : World) (K : Nat → Prop) (gd : Nat) (s : D) (gb : Nat) (g : BG) (ch : Nat → Option (List UInt8)) (h : Lv w K gd s gb g ch wr)
include h
theorem lv_write (lo hi : Nat) (i : Int) (x : Value) (b : List UInt8) (hx : SlIs wr lo hi x b) (hhi : hi ≤ wr.heap.size) :
    Calls Tryz.prog 12 #[.pointer (some ⟨gb, 0, none⟩), .int .i64 i, x] wr (BAns w K gd (.int .i64 (writeR g i b)) s gb g (writeC g ch i b) wr) := by
  obtain ⟨F, E, G, d, f, e, r, hb, l⟩ := h
  exact (bookwrite_any F E G gd gb s g ch wr d lo hi i x b hx hhi).mono fun e w' hh => ⟨hh.1, Lv.step f (by assumption) r hb l hh.2⟩
theorem lv_commit (lt : Nat) (sl : List UInt8) (P : Nat → List UInt8) (hr : Rep g s.seen lt sl P) (ho : s.off = false) (hroom : s.Room 1100) (hch : ∀ p bs, ch p = some bs → bs.length = g.z - 16) :
    Calls Tryz.prog 15 #[.pointer (some ⟨gb, 0, none⟩)] wr (BAns w K gd (.int .i64 (commitD g s lt sl ch).1) (commitD g s lt sl ch).2 gb g (leftCh (commitD g s lt sl ch).1 ch) wr) := by
  obtain ⟨F, E, G, d, f, e, r, hb, l⟩ := h
  exact (bookcommit_on F E G gd gb s g ch wr d lt sl P hr ho hroom hch).mono fun e w' hh => ⟨hh.1, Lv.step f (by assumption) r hb l hh.2⟩
theorem lv_commit_off (hs : s.Small) (ho : s.off = true) : Calls Tryz.prog 15 #[.pointer (some ⟨gb, 0, none⟩)] wr (BAns w K gd (.int .i64 22) s gb g ch wr) := by
  obtain ⟨F, E, G, d, f, e, r, hb, l⟩ := h
  exact (bookcommit_off F E G gd gb s g ch wr d hs ho).mono fun e w' hh => ⟨hh.1, Lv.step f (by assumption) r hb l hh.2⟩
theorem lv_abort : Calls Tryz.prog 16 #[.pointer (some ⟨gb, 0, none⟩)] wr (BAns w K gd (.tuple #[]) s gb g noCh wr) := by
  obtain ⟨F, E, G, d, f, e, r, hb, l⟩ := h
  exact (bookabort_any F E G gd gb s g ch wr d).mono fun e w' hh => ⟨hh.1, Lv.step f (by assumption) r hb l hh.2⟩
theorem lv_pages : Calls Tryz.prog 24 #[.pointer (some ⟨gb, 0, none⟩)] wr fun e w' => e = .returned (.int .i64 (g.k : Int)) ∧ wr = w' := by
  obtain ⟨F, E, G, d, _⟩ := h
  exact bookpages_any F E G gd gb s g ch wr d
theorem lv_most : Calls Tryz.prog 13 #[.pointer (some ⟨gb, 0, none⟩)] wr fun e w' => e = .returned (.int .i64 (g.k : Int)) ∧ wr = w' := by
  obtain ⟨F, E, G, d, _⟩ := h
  exact bookmost_any F E G gd gb s g ch wr d
theorem lv_changed : Calls Tryz.prog 27 #[.pointer (some ⟨gb, 0, none⟩)] wr (ChangedAns wr (keysOf ch g.k)) := by
  obtain ⟨F, E, G, d, _⟩ := h
  exact bookchanged_any G gb gd g ch wr d.bk d.ok.k2
theorem lv_read (i : Int) (lt : Nat) (sl : List UInt8) (P : Nat → List UInt8) (hr : s.off = false → Rep g s.seen lt sl P) (hl : ∀ p bs, ch p = some bs → bs.length ≤ 4096) :
    Calls Tryz.prog 26 #[.pointer (some ⟨gb, 0, none⟩), .int .i64 i] wr fun e w' => ∃ A c, e = .returned (.tuple #[.slice A (readR g s ch P i).2.length c, .int .i64 (readR g s ch P i).1]) ∧ SlIs w' wr.heap.size w'.heap.size (.slice A (readR g s ch P i).2.length c) (readR g s ch P i).2 ∧ Below wr.heap.size wr w' := by
  obtain ⟨F, E, G, d, _⟩ := h
  refine (bookread_any F E G gd gb s g ch wr d lt i sl P hr hl).mono fun e w' hh => ?_
  obtain ⟨v, rfl, h1, h2⟩ := hh
  obtain ⟨A, c, rfl, r⟩ := id h1
  exact ⟨A, c, rfl, h1, h2⟩
theorem lv_arm (n : Int) (keep : List Bool) (x : Value) (X : Nat → Prop) (hx : RwIs wr X keep.length x (bvs keep)) (hl : keep.length ≤ 1000000) :
    Calls Tryz.prog 19 #[.pointer (some ⟨gd, 0, none⟩), .int .i64 n, x] wr (BAns w K gd (.tuple #[]) (s.arm n keep) gb g ch wr) := by
  obtain ⟨F, E, G, d, f, e, r, hb, l⟩ := h
  exact (arm_any F E X gd n s keep x wr d.dk hx hl).mono fun e w' hh => ⟨hh.1, Lv.step f (by assumption) r hb l (d.disk hh.2 rfl rfl)⟩
theorem lv_cut (keep : List Bool) (x : Value) (X : Nat → Prop) (hx : RwIs wr X keep.length x (bvs keep)) (hX : ∀ i, X i → K i ∨ i < w.heap.size) (hs : s.Small) :
    Calls Tryz.prog 18 #[.pointer (some ⟨gd, 0, none⟩), x] wr (BAns w K gd (.tuple #[]) (s.cut keep) gb g ch wr) := by
  obtain ⟨F, E, G, d, f, e, r, hb, l⟩ := h
  refine (cut_any F E X gd s keep x wr d.dk hx (fun i hi hF => ?_) hs.pend).mono fun e w' hh => ⟨hh.1, Lv.step f (by assumption) r hb l (d.disk hh.2 (by simp [D.cut, applyL_length]) rfl)⟩
  have := f i hF
  rcases hX i hi with h | h
  · exact this.2 h
  · omega
theorem lv_on : Calls Tryz.prog 20 #[.pointer (some ⟨gd, 0, none⟩)] wr (BAns w K gd (.tuple #[]) { s with off := false } gb g ch wr) := by
  obtain ⟨F, E, G, d, f, e, r, hb, l⟩ := h
  exact (on_any F E gd s wr d.dk).mono fun e w' hh => ⟨hh.1, Lv.step f (by assumption) r hb l (d.disk hh.2 rfl rfl)⟩
theorem lv_off : Calls Tryz.prog 17 #[.pointer (some ⟨gd, 0, none⟩)] wr fun e w' => e = .returned (.bool s.off) ∧ wr = w' := live_off w wr K gd s h.live
theorem lv_bytes : Calls Tryz.prog 23 #[.pointer (some ⟨gd, 0, none⟩)] wr fun e w' => ∃ A c, e = .returned (.slice A s.kept.flatten.length c) ∧ SlIs w' wr.heap.size w'.heap.size (.slice A s.kept.flatten.length c) s.kept.flatten ∧ Below wr.heap.size wr w' := live_bytes w wr K gd s h.live
end
section
variable (w wr : World) (K : Nat → Prop) (gd : Nat) (s : D) (h : Live w K gd s wr)
include h
theorem lv_format (a m k : Nat) (ho : s.off = false) (hz : 64 ≤ s.size) (ht : there s.kept.length (a : Int) (m : Int) = true) (hmay : mayH (m : Int) (k : Int) = true) (hroom : s.Room 10) (hT : (formD ⟨a, m, s.size, k⟩ s).1 = 0) :
    Calls Tryz.prog 10 #[.pointer (some ⟨gd, 0, none⟩), .int .i64 (a : Int), .int .i64 (m : Int), .int .i64 (k : Int)] wr fun e w' => ∃ gb, e = .returned (.tuple #[.pointer (some ⟨gb, 0, none⟩), .int .i64 0]) ∧
      Lv w K gd (formD ⟨a, m, s.size, k⟩ s).2 gb ⟨a, m, s.size, k⟩ noCh w' ∧ Only (fun i => ¬ K i ∧ w.heap.size ≤ i) wr w' := by
  obtain ⟨F, E, d, f, e, hb, l⟩ := h
  refine (format_yes F E gd s wr d a m k ho hz ht hmay hroom hT).mono ?_
  rintro e' w' ⟨gb, rfl, ⟨F', E', G, q1, q2, q3, q4⟩, o⟩
  have hs := hb.size
  have q : ∀ X X' : Nat → Prop, (∀ i, X i → w.heap.size ≤ i ∧ ¬ K i) → (∀ i, X' i → X i ∨ wr.heap.size ≤ i) → ∀ i, X' i → w.heap.size ≤ i ∧ ¬ K i := fun X X' x x' i hi => by
    rcases x' i hi with h | h
    · exact x i h
    · exact ⟨by omega, fun hk => by have := l i hk; omega⟩
  refine ⟨gb, rfl, ⟨F', E', G, q1, q F F' f q2, q E E' e q3, q (fun _ => False) G (fun _ h => h.elim) (fun i hi => .inr (q4 i hi)), hb.trans (o.below hs (fun i hi h => ?_)), fun i hi => Nat.lt_of_lt_of_le (l i hi) o.size⟩, o.mono (fun i _ h => ⟨(f i h).2, (f i h).1⟩)⟩
  have := (f i h).1
  omega
theorem lv_format_not (a m k : Int) (hno : there s.kept.length a m = false ∨ mayH m k = false) :
    Calls Tryz.prog 10 #[.pointer (some ⟨gd, 0, none⟩), .int .i64 a, .int .i64 m, .int .i64 k] wr fun e w' => e = .returned (.tuple #[.pointer none, .int .i64 1]) ∧ Live w K gd s w' ∧ Only (fun _ => False) wr w' := by
  have h' := h
  obtain ⟨F, E, d, _⟩ := h
  exact (format_not F E gd s wr d a m k hno).mono fun e w' hh => ⟨hh.1, h'.new hh.2, hh.2⟩
theorem lv_open (a m : Nat) (ho : s.off = false) (hz : 64 ≤ s.size) (ht : there s.kept.length (a : Int) (m : Int) = true) (hok : OpenOk s (openG s a m)) :
    Calls Tryz.prog 21 #[.pointer (some ⟨gd, 0, none⟩), .int .i64 (a : Int), .int .i64 (m : Int)] wr fun e w' => ∃ gb, e = .returned (.tuple #[.pointer (some ⟨gb, 0, none⟩), .int .i64 0]) ∧ Lv w K gd s gb (openG s a m) noCh w' ∧ Below wr.heap.size wr w' := by
  obtain ⟨F, E, d, f, e, hb, l⟩ := h
  refine (open_yes F E gd s wr d a m ho hz ht hok).mono ?_
  rintro e' w' ⟨gb, rfl, ⟨G, q1, q2⟩, b⟩
  have hs := hb.size
  exact ⟨gb, rfl, ⟨F, E, G, q1, f, e, fun i hi => ⟨by have := q2 i hi; omega, fun hk => by have := q2 i hi; have := l i hk; omega⟩, hb.trans (b.mono hs), fun i hi => Nat.lt_of_lt_of_le (l i hi) b.size⟩, b⟩
theorem lv_open_form (a m : Nat) (ho : s.off = false) (hz : 64 ≤ s.size) (ht : there s.kept.length (a : Int) (m : Int) = true) (hok : ¬ OpenOk s (openG s a m)) :
    Calls Tryz.prog 21 #[.pointer (some ⟨gd, 0, none⟩), .int .i64 (a : Int), .int .i64 (m : Int)] wr fun e w' => e = .returned (.tuple #[.pointer none, .int .i64 2]) ∧ Below wr.heap.size wr w' := by
  obtain ⟨F, E, d, _⟩ := h
  exact open_form F E gd s wr d a m ho hz ht hok
theorem lv_open_not (a m : Int) (ht : there s.kept.length a m = false) :
    Calls Tryz.prog 21 #[.pointer (some ⟨gd, 0, none⟩), .int .i64 a, .int .i64 m] wr fun e w' => e = .returned (.tuple #[.pointer none, .int .i64 1]) ∧ Below wr.heap.size wr w' := by
  obtain ⟨F, E, d, _⟩ := h
  exact open_not F E gd s wr d a m ht
end
theorem num_root (z n k l : Nat) (hk : k ≤ 1024) : num2 (rootB z n k l) 12 = k := by
  have e : rootB z n k l = (markB ++ le2 z ++ le2 n) ++ (UInt8.ofNat k :: UInt8.ofNat (k / 256) :: (le2 l ++ List.replicate (z - 16) 0)) := by simp [rootB, le2]
  have hl : (markB ++ le2 z ++ le2 n).length = 12 := rfl
  obtain ⟨pre, hp⟩ : ∃ pre, pre = markB ++ le2 z ++ le2 n := ⟨_, rfl⟩
  rw [← hp] at e hl
  obtain ⟨tl, ht⟩ : ∃ tl, tl = le2 l ++ List.replicate (z - 16) (0 : UInt8) := ⟨_, rfl⟩
  rw [← ht] at e
  have g0 : (pre ++ UInt8.ofNat k :: UInt8.ofNat (k / 256) :: tl)[12]? = some (UInt8.ofNat k) := by rw [List.getElem?_append_right (by omega), hl]; rfl
  have g1 : (pre ++ UInt8.ofNat k :: UInt8.ofNat (k / 256) :: tl)[12 + 1]? = some (UInt8.ofNat (k / 256)) := by rw [List.getElem?_append_right (by omega), hl]; rfl
  unfold num2
  rw [e]
  simp only [List.getD]
  rw [g0, g1]
  simp [UInt8.toNat_ofNat']
  omega
/-- The book that lies there is found. -/
theorem open_of_rest {g : BG} {s : D} {P : Nat → List UInt8} (h : Rest g s P) : openG s g.at_ g.n = g ∧ OpenOk s g := by
  have hs := h.seen
  obtain ⟨l, sl, hr⟩ := h.rep
  have hz1 := h.ok.z1
  have hk2 := h.ok.k2
  have e0 : s.seen.getD g.at_ [] = rootB g.z g.n g.k l := by
    rw [hs]
    have := hr.root
    simpa [BG.sec] using this
  have e1 : openG s g.at_ g.n = g := by
    unfold openG
    rw [e0, num_root _ _ _ _ hk2, ← h.size]
  obtain ⟨r1, r2⟩ := rooted_of hr
  refine ⟨e1, (mayH_iff _ _).2 ⟨h.ok.k1, h.ok.k2, h.ok.room⟩, by rw [hs]; exact r1, ?_⟩
  rw [hs, r2, hr.slots]
  exact hr.ok
end Go.Proofs.YtnhojcldeloigaaGreat
