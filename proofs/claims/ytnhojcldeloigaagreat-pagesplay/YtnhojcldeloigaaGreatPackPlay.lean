/-
  PagesPlay: the book of a play and the disk around it, between acts.
  PagesPlay: each call of a play.
  PagesPlay: the row of new pages.
  PagesPlay: a round: the book, the rows of pages and the act's own block; each call of a round.
-/
import Derived.Test.YtnhojcldeloigaaGreatLaw8Shows
import Derived.Test.YtnhojcldeloigaaGreatLaw8With
import Derived.Test.YtnhojcldeloigaaGreatLaw8Few
namespace Go.Proofs.YtnhojcldeloigaaGreat
open Go.RowKit Go.Lib Go.Maps
set_option maxRecDepth 100000

def g83 (k : Nat) : BG := ⟨2, 3 * k + 16, 64, k⟩
def k83 (k : Nat) : D := D.new 64 (List.replicate (3 * k + 20) (List.replicate 64 0))
theorem k83_ok {k : Nat} (hk : k ≤ 8) : (k83 k).Ok := D.new_ok (by simp) (by simp; omega) (by decide) (fun y hy => by rw [(List.mem_replicate.1 hy).2]; simp)
theorem k83_len (k : Nat) : (k83 k).kept.length = 3 * k + 20 := by
  show (List.replicate (3 * k + 20) (List.replicate 64 (0 : UInt8))).length = _
  simp
theorem g83_ok {k : Nat} (h1 : 1 ≤ k) (h2 : k ≤ 8) : (g83 k).Ok (k83 k).kept.length := by
  rw [k83_len]
  exact ⟨by show 64 ≤ 64; decide, by show 64 ≤ 1024; decide, h1, by show k ≤ 1024; omega, by show 3 * k + 16 ≤ 3 * k + 16; omega, by show 2 + (3 * k + 16) ≤ _; omega, by omega⟩
def lensOk8 (ch : Nat → Option (List UInt8)) : Prop := ∀ p bs, ch p = some bs → bs.length = 48
/-- Sectors around the book are as they were. -/
def Around (k : Nat) (s : D) : Prop := Agree (inBook (g83 k)) (k83 k).kept s.kept
/-- Any number to arm by. -/
theorem calm_armI {g : BG} {s : D} {P : Nat → List UInt8} {n : Nat} (h : Calm g s P n) (x : Int) (hx : x ≤ 9223372036854775807) (keep : List Bool) : Calm g (s.arm x keep) P n := by
  refine ⟨⟨h.rest.on, h.rest.pend, h.rest.size, h.rest.ok, h.rest.rep⟩, ⟨h.ok.pos, h.ok.most, h.ok.small, h.ok.sect, h.ok.long, h.ok.longp⟩, ?_, h.writes⟩
  show (if x < 1 then 1 else x.toNat) ≤ _
  split <;> omega
theorem cut_kept {s : D} (h : s.pend = []) (keep : List Bool) : ({ s.cut keep with off := false } : D).kept = s.kept := by
  show applyL s.kept (chosen s.pend keep) = s.kept
  rw [h]
  rfl

/-! ### the bytes at both ends -/
theorem flatten_at {z : Nat} : ∀ (K : List (List UInt8)) (i : Nat), (∀ x ∈ K, x.length = z) → 0 < z → K.flatten[i]? = (K[i / z]?).bind fun x => x[i % z]?
  | [], i, _, _ => by simp
  | x :: K, i, h, hz => by
    have hx := h x (List.mem_cons_self ..)
    rw [List.flatten_cons]
    by_cases hi : i < z
    · rw [List.getElem?_append_left (by omega), Nat.div_eq_of_lt hi, Nat.mod_eq_of_lt hi]
      simp
    · have e1 : i / z = (i - z) / z + 1 := by
        rw [← Nat.div_eq_sub_div hz (by omega)]
      have e2 : i % z = (i - z) % z := (Nat.mod_eq_sub_mod (by omega))
      rw [List.getElem?_append_right (by omega), hx, flatten_at K (i - z) (fun y hy => h y (List.mem_cons_of_mem _ hy)) hz, e1, e2]
      simp
theorem ends_zero {k : Nat} {s : D} (h : Around k s) (hall : ∀ x ∈ s.kept, x.length = 64) (i : Nat) (hi : i < 128) :
    s.kept.flatten.length = (3 * k + 20) * 64 ∧ s.kept.flatten[i]? = some 0 ∧ s.kept.flatten[(3 * k + 20) * 64 - 1 - i]? = some 0 := by
  have hlen : s.kept.length = 3 * k + 20 := by rw [← h.1, k83_len]
  have hz : ∀ j, j < 3 * k + 20 → (j < 2 ∨ 3 * k + 18 ≤ j) → s.kept[j]? = some (List.replicate 64 0) := fun j hj ho => by
    rw [← h.2 j (fun hb => by
      have h1 : 2 ≤ j := hb.1
      have h2 : j < 2 + (3 * k + 16) := hb.2
      omega)]
    show (List.replicate (3 * k + 20) (List.replicate 64 (0 : UInt8)))[j]? = _
    simp [hj]
  have q : ∀ j, j < (3 * k + 20) * 64 → (j / 64 < 2 ∨ 3 * k + 18 ≤ j / 64) → s.kept.flatten[j]? = some 0 := fun j hj ho => by
    rw [flatten_at s.kept j hall (by decide), hz (j / 64) (by omega) ho]
    have h64 : j % 64 < 64 := Nat.mod_lt _ (by decide)
    show (List.replicate 64 (0 : UInt8))[j % 64]? = some 0
    rw [List.getElem?_replicate, if_pos h64]
  refine ⟨by rw [flat_len (z := 64) s.kept hall, hlen], q i (by omega) (.inl (by omega)), q _ (by omega) (.inr (by omega))⟩

/-! ### the calls of a play -/
section
variable (w : World)
theorem play_new (k : Nat) (h1 : 1 ≤ k) (h2 : k ≤ 8) (w1 : World) (b1 : Below w.heap.size w w1) : Calls Tryz.prog 9 #[.int .i64 ((3 * k + 20 : Nat) : Int), .int .i64 64] w1 fun e w2 => ∃ gd, e = .returned (.tuple #[.pointer (some ⟨gd, 0, none⟩), .int .i64 0]) ∧ Live w (fun _ => False) gd (k83 k) w2 := (disknew_any ((3 * k + 20 : Nat) : Int) 64 w1).mono fun e w2 hN => by
  rw [NewAns, if_pos (by unfold mayB; simp; omega)] at hN
  obtain ⟨v, rfl, hm⟩ := hN
  obtain ⟨gd, rfl, L0, _⟩ := Live.made b1 (K := fun _ => False) (fun _ h => h.elim) hm
  exact ⟨gd, rfl, L0⟩
/-- Between acts, of the disk and its book. -/
structure PBk (w : World) (K : Nat → Prop) (gd gb k n : Nat) (s : D) (ch : Nat → Option (List UInt8)) (P : Nat → List UInt8) (wr : World) : Prop where
  lv : Lv w K gd s gb (g83 k) ch wr
  calm : Calm (g83 k) s P n
  around : Around k s
  lens : lensOk8 ch
theorem play_format (k : Nat) (h1 : 1 ≤ k) (h2 : k ≤ 8) (gd : Nat) (w2 : World) (l2 : Live w (fun _ => False) gd (k83 k) w2) : Calls Tryz.prog 10 #[.pointer (some ⟨gd, 0, none⟩), .int .i64 2, .int .i64 ((3 * k + 16 : Nat) : Int), .int .i64 (k : Int)] w2 fun e w' => ∃ gb s, e = .returned (.tuple #[.pointer (some ⟨gb, 0, none⟩), .int .i64 0]) ∧ PBk w (fun _ => False) gd gb k 900000 s noCh (fun _ => zpage 64) w' := by
  obtain ⟨f1, _, f3, f4⟩ := format_calm (g := g83 k) (s := k83 k) (n := 900000) (k83_ok h2) (g83_ok h1 h2) rfl rfl rfl rfl (by show 0 + 900000 ≤ 999990; decide)
  refine (lv_format w w2 _ gd (k83 k) l2 2 (3 * k + 16) k rfl (by show 64 ≤ 64; decide) (by rw [k83_len]; exact decide_eq_true ⟨by omega, by omega, by omega, by omega⟩) ((mayH_iff _ _).2 ⟨h1, by omega, by omega⟩) ⟨by show 0 + 10 ≤ 1000000; decide, by show 0 ≤ 9223372036854775807; decide, by show 0 + 10 ≤ 1000000; decide⟩ f1).mono ?_
  rintro e w' ⟨gb, rfl, l3, _⟩
  exact ⟨gb, _, rfl, l3, f3, f4, fun p bs h => by cases h⟩
end
end Go.Proofs.YtnhojcldeloigaaGreat
namespace Go.Proofs.YtnhojcldeloigaaGreat
open Go.RowKit Go.Lib Go.Maps
set_option maxRecDepth 100000

/-- The power is off, and all that was asked of the disk lies there. -/
structure PDn (w : World) (K : Nat → Prop) (gd gb k n : Nat) (s : D) (P : Nat → List UInt8) (wr : World) : Prop where
  lv : ∃ ch, Lv w K gd s gb (g83 k) ch wr
  off : s.off = true
  pend : s.pend = []
  calm : Calm (g83 k) { s with off := false } P n
  around : Around k s
/-- Between a power cut and the next book. -/
structure POn (w : World) (K : Nat → Prop) (gd k n : Nat) (s : D) (P : Nat → List UInt8) (wr : World) : Prop where
  live : Live w K gd s wr
  calm : Calm (g83 k) s P n
  around : Around k s
section
variable {w wr w' : World} {K K' S : Nat → Prop} {gd gb k n m : Nat} {s : D} {ch : Nat → Option (List UInt8)} {P : Nat → List UInt8}
theorem PBk.new (h : PBk w K gd gb k n s ch P wr) (o : Only (fun _ => False) wr w') : PBk w K gd gb k n s ch P w' := ⟨h.lv.new o, h.calm, h.around, h.lens⟩
theorem PBk.below (h : PBk w K gd gb k n s ch P wr) (o : Below wr.heap.size wr w') : PBk w K gd gb k n s ch P w' := ⟨h.lv.below o, h.calm, h.around, h.lens⟩
theorem PBk.more (h : PBk w K gd gb k n s ch P wr) (o : Only (fun _ => False) wr w') (hK : ∀ i, K' i → (K i ∨ wr.heap.size ≤ i) ∧ i < w'.heap.size) : PBk w K' gd gb k n s ch P w' := ⟨h.lv.more o hK, h.calm, h.around, h.lens⟩
theorem PBk.far (h : PBk w K gd gb k n s ch P wr) (o : Only S wr w') (hS : ∀ i, i < wr.heap.size → S i → K i) (hw : ∀ i, i < w.heap.size → ¬ S i) : PBk w K gd gb k n s ch P w' := ⟨h.lv.far o hS hw, h.calm, h.around, h.lens⟩
theorem PBk.less (h : PBk w K gd gb k n s ch P wr) (hm : m ≤ n) : PBk w K gd gb k m s ch P wr := ⟨h.lv, h.calm.more hm, h.around, h.lens⟩
theorem PBk.low (h : PBk w K gd gb k n s ch P wr) : Below w.heap.size w wr := h.lv.low
end
def writeCh (k : Nat) (ch : Nat → Option (List UInt8)) (i : Int) (b : List UInt8) : Nat → Option (List UInt8) := if 0 ≤ i ∧ i < (k : Int) then updCh ch i.toNat b else ch
section
variable (w wr : World) (K : Nat → Prop) (gd gb k n : Nat) (s : D) (ch : Nat → Option (List UInt8)) (P : Nat → List UInt8)
theorem play_write (h : PBk w K gd gb k n s ch P wr) (i : Int) (x : Value) (lo hi : Nat) (b : List UInt8) (hx : SlIs wr lo hi x b) (hhi : hi ≤ wr.heap.size) (hb : b.length = 48) :
    Calls Tryz.prog 12 #[.pointer (some ⟨gb, 0, none⟩), .int .i64 i, x] wr fun e w' => e = .returned (.int .i64 (if 0 ≤ i ∧ i < (k : Int) then 0 else 1)) ∧ PBk w K gd gb k n s (writeCh k ch i b) P w' ∧ Only (fun i => ¬ K i ∧ w.heap.size ≤ i) wr w' := by
  have C := lv_write w wr K gd s gb (g83 k) ch h.lv lo hi i x b hx hhi
  have e1 : writeR (g83 k) i b = if 0 ≤ i ∧ i < (k : Int) then 0 else 1 := by
    unfold writeR
    by_cases hi : 0 ≤ i ∧ i < (k : Int)
    · rw [if_pos hi, if_pos ⟨hi.1, hi.2, hb⟩]
    · rw [if_neg hi, if_neg (fun hh => hi ⟨hh.1, hh.2.1⟩)]
  have e2 : writeC (g83 k) ch i b = writeCh k ch i b := by
    unfold writeC writeCh
    rw [e1]
    by_cases hi : 0 ≤ i ∧ i < (k : Int)
    · rw [if_pos hi, if_pos hi, if_pos rfl]
    · rw [if_neg hi, if_neg hi, if_neg (by decide)]
  rw [e1, e2] at C
  refine C.mono fun _ _ hh => ⟨hh.1, ⟨hh.2.1, h.calm, h.around, ?_⟩, hh.2.2⟩
  unfold writeCh
  split
  · intro p bs hp
    unfold updCh at hp
    split at hp
    · injection hp with hp
      rw [← hp]
      exact hb
    · exact h.lens p bs hp
  · exact h.lens
theorem play_commit (h : PBk w K gd gb k (n + 1100) s ch P wr) :
    Calls Tryz.prog 15 #[.pointer (some ⟨gb, 0, none⟩)] wr fun e w' => ((∃ s', e = .returned (.int .i64 0) ∧ PBk w K gd gb k n s' noCh (nowP ch P) w') ∨ (∃ s', e = .returned (.int .i64 22) ∧ PDn w K gd gb k n s' P w')) ∧ Only (fun i => ¬ K i ∧ w.heap.size ≤ i) wr w' := by
  obtain ⟨lt, sl, hr⟩ := h.calm.rest.rep
  have hrs : Rep (g83 k) s.seen lt sl P := by rw [h.calm.rest.seen]; exact hr
  refine (lv_commit w wr K gd s gb (g83 k) ch h.lv lt sl P hrs h.calm.rest.on (h.calm.room (by omega)) h.lens).mono ?_
  rintro e w' ⟨rfl, l, o⟩
  refine ⟨?_, o⟩
  rcases commit_calm h.calm hr h.lens with ⟨q1, _, q3, q4⟩ | ⟨q1, _, q2, q3, q4, q5⟩
  · rw [q1] at l ⊢
    exact .inl ⟨_, rfl, l, q3, h.around.trans q4, fun p bs hp => by cases hp⟩
  · rw [q1] at l ⊢
    exact .inr ⟨_, rfl, ⟨_, l⟩, q2, q4, q3, h.around.trans q5⟩
theorem play_abort (h : PBk w K gd gb k n s ch P wr) : Calls Tryz.prog 16 #[.pointer (some ⟨gb, 0, none⟩)] wr fun e w' => e = .returned (.tuple #[]) ∧ PBk w K gd gb k n s noCh P w' ∧ Only (fun i => ¬ K i ∧ w.heap.size ≤ i) wr w' :=
  (lv_abort w wr K gd s gb (g83 k) ch h.lv).mono fun _ _ hh => ⟨hh.1, ⟨hh.2.1, h.calm, h.around, fun p bs hp => by cases hp⟩, hh.2.2⟩
theorem play_arm (h : PBk w K gd gb k n s ch P wr) (x : Int) (hx : x ≤ 9223372036854775807) (keep : List Bool) (y : Value) (X : Nat → Prop) (hy : RwIs wr X keep.length y (bvs keep)) (hl : keep.length ≤ 1000000) :
    Calls Tryz.prog 19 #[.pointer (some ⟨gd, 0, none⟩), .int .i64 x, y] wr fun e w' => e = .returned (.tuple #[]) ∧ PBk w K gd gb k n (s.arm x keep) ch P w' ∧ Only (fun i => ¬ K i ∧ w.heap.size ≤ i) wr w' :=
  (lv_arm w wr K gd s gb (g83 k) ch h.lv x keep y X hy hl).mono fun _ _ hh => ⟨hh.1, ⟨hh.2.1, calm_armI h.calm x hx keep, h.around, h.lens⟩, hh.2.2⟩
theorem play_off (h : PBk w K gd gb k n s ch P wr) : Calls Tryz.prog 17 #[.pointer (some ⟨gd, 0, none⟩)] wr fun e w' => e = .returned (.bool false) ∧ w' = wr :=
  (lv_off w wr K gd s gb (g83 k) ch h.lv).mono fun _ _ hh => ⟨by rw [hh.1, h.calm.rest.on], hh.2.symm⟩
theorem play_down (h : PDn w K gd gb k n s P wr) : Calls Tryz.prog 17 #[.pointer (some ⟨gd, 0, none⟩)] wr fun e w' => e = .returned (.bool true) ∧ w' = wr := by
  obtain ⟨ch, l⟩ := h.lv
  exact (lv_off w wr K gd s gb (g83 k) ch l).mono fun _ _ hh => ⟨by rw [hh.1, h.off], hh.2.symm⟩
theorem play_cut (h : PBk w K gd gb k n s ch P wr) (keep : List Bool) (y : Value) (X : Nat → Prop) (hy : RwIs wr X keep.length y (bvs keep)) (hX : ∀ i, X i → K i ∨ i < w.heap.size) :
    Calls Tryz.prog 18 #[.pointer (some ⟨gd, 0, none⟩), y] wr fun e w' => e = .returned (.tuple #[]) ∧ PDn w K gd gb k n (s.cut keep) P w' ∧ Only (fun i => ¬ K i ∧ w.heap.size ≤ i) wr w' :=
  (lv_cut w wr K gd s gb (g83 k) ch h.lv keep y X hy hX h.calm.small).mono fun _ _ hh => ⟨hh.1, ⟨⟨ch, hh.2.1⟩, rfl, rfl, h.calm.cut keep, by
    have e := cut_kept h.calm.rest.pend keep
    unfold Around at *
    rw [show (s.cut keep).kept = s.kept from e]
    exact h.around⟩, hh.2.2⟩
theorem play_again (h : PDn w K gd gb k n s P wr) (keep : List Bool) (y : Value) (X : Nat → Prop) (hy : RwIs wr X keep.length y (bvs keep)) (hX : ∀ i, X i → K i ∨ i < w.heap.size) :
    Calls Tryz.prog 18 #[.pointer (some ⟨gd, 0, none⟩), y] wr fun e w' => e = .returned (.tuple #[]) ∧ PDn w K gd gb k n (s.cut keep) P w' ∧ Only (fun i => ¬ K i ∧ w.heap.size ≤ i) wr w' := by
  obtain ⟨ch, l⟩ := h.lv
  have hsm := h.calm.small
  refine (lv_cut w wr K gd s gb (g83 k) ch l keep y X hy hX ⟨hsm.pend, hsm.armed, hsm.writes⟩).mono fun _ _ hh => ⟨hh.1, ⟨⟨ch, hh.2.1⟩, rfl, rfl, h.calm.cut keep, ?_⟩, hh.2.2⟩
  have e := cut_kept h.pend keep
  have ha := h.around
  unfold Around at *
  rw [show (s.cut keep).kept = s.kept from e]
  exact ha
theorem play_on (h : PDn w K gd gb k n s P wr) : Calls Tryz.prog 20 #[.pointer (some ⟨gd, 0, none⟩)] wr fun e w' => e = .returned (.tuple #[]) ∧ POn w K gd k n { s with off := false } P w' ∧ Only (fun i => ¬ K i ∧ w.heap.size ≤ i) wr w' := by
  obtain ⟨ch, l⟩ := h.lv
  exact (lv_on w wr K gd s gb (g83 k) ch l).mono fun _ _ hh => ⟨hh.1, ⟨hh.2.1.live, h.calm, h.around⟩, hh.2.2⟩
theorem play_open (h : POn w K gd k n s P wr) : Calls Tryz.prog 21 #[.pointer (some ⟨gd, 0, none⟩), .int .i64 2, .int .i64 ((3 * k + 16 : Nat) : Int)] wr fun e w' => ∃ gb2, e = .returned (.tuple #[.pointer (some ⟨gb2, 0, none⟩), .int .i64 0]) ∧ PBk w K gd gb2 k n s noCh P w' ∧ Below wr.heap.size wr w' := by
  obtain ⟨e3, ok3⟩ := open_of_rest h.calm.rest
  have e3 : openG s 2 (3 * k + 16) = g83 k := e3
  refine (lv_open w wr K gd s h.live 2 (3 * k + 16) h.calm.rest.on (by rw [← h.calm.rest.size]; show 64 ≤ 64; decide) h.calm.there (by rw [e3]; exact ok3)).mono fun e w' hh => ?_
  obtain ⟨gb2, rfl, l, o⟩ := hh
  rw [e3] at l
  exact ⟨gb2, rfl, ⟨l, h.calm, h.around, fun p bs hp => by cases hp⟩, o⟩
theorem play_bytes (h : PBk w K gd gb k n s ch P wr) : Calls Tryz.prog 23 #[.pointer (some ⟨gd, 0, none⟩)] wr fun e w' => ∃ A c, e = .returned (.slice A ((3 * k + 20) * 64) c) ∧ (∀ i, i < 128 → ∃ ad, A = some ad ∧ w'.cell? (ad.add i) = some (.int .u8 0) ∧ w'.cell? (ad.add ((3 * k + 20) * 64 - 1 - i)) = some (.int .u8 0)) ∧ Below wr.heap.size wr w' := by
  have hall : ∀ x ∈ s.kept, x.length = 64 := fun x hx => by
    have := h.calm.ok.long x hx
    rw [this, ← h.calm.rest.size]
    rfl
  refine (lv_bytes w wr K gd s gb (g83 k) ch h.lv).mono fun e w' hh => ?_
  obtain ⟨A, c, rfl, x, o⟩ := hh
  have hlen := (ends_zero h.around hall 0 (by decide)).1
  refine ⟨A, c, by rw [hlen], fun i hi => ?_, o⟩
  obtain ⟨_, q1, q2⟩ := ends_zero h.around hall i hi
  obtain ⟨A', c', e, _, _, r⟩ := x
  injection e with e _ _
  subst e
  obtain ⟨ad, e, _, _, hc⟩ := r (by omega)
  have b8z : ∀ j : Nat, s.kept.flatten[j]? = some 0 → (b8s s.kept.flatten)[j]? = some (Value.int IntKind.u8 0) := fun j hj => by
    rw [b8s, List.getElem?_map, hj]
    rfl
  exact ⟨ad, e, hc i _ (b8z _ q1), hc _ _ (b8z _ q2)⟩
end
end Go.Proofs.YtnhojcldeloigaaGreat
namespace Go.Proofs.YtnhojcldeloigaaGreat
open Go.RowKit Go.Lib Go.Maps
set_option maxRecDepth 100000

def z48 : List UInt8 := List.replicate 48 0
/-- A book, and a row of strings of the law's. -/
structure PRow (w : World) (gd gb k n : Nat) (s : D) (ch : Nat → Option (List UInt8)) (P : Nat → List UInt8) (v : Value) (L : List (List UInt8)) (wr : World) : Prop where
  bk : PBk w (fun i => v.ownBlock = some i) gd gb k n s ch P wr
  row : wr.ownsRow w.heap.size 9 1 v L.length (svs L)
theorem Lv.grow {w wr w' : World} {K K' S : Nat → Prop} {gd gb : Nat} {s : D} {g : BG} {ch : Nat → Option (List UInt8)} (h : Lv w K gd s gb g ch wr) (k : Only S wr w') (hS : ∀ i, i < wr.heap.size → S i → K i) (hw : ∀ i, i < w.heap.size → ¬ S i) (hK : ∀ i, K' i → (K i ∨ wr.heap.size ≤ i) ∧ i < w'.heap.size) : Lv w K' gd s gb g ch w' := by
  obtain ⟨F, E, G, d, f, e, r, b, l⟩ := h
  obtain ⟨lF, lE, lG⟩ := d.lts
  have q : ∀ X : Nat → Prop, (∀ i, X i → w.heap.size ≤ i ∧ ¬ K i) → (∀ i, X i → i < wr.heap.size) → ∀ i, X i → w.heap.size ≤ i ∧ ¬ K' i := fun X x lx i hi => ⟨(x i hi).1, fun hk => by
    rcases (hK i hk).1 with h | h
    · exact (x i hi).2 h
    · have := lx i hi
      omega⟩
  exact ⟨F, E, G, d.only k (fun i hi hs => ⟨fun hF => (f i hF).2 (hS i hi hs), fun hE => (e i hE).2 (hS i hi hs), fun hG => (r i hG).2 (hS i hi hs)⟩), q F f lF, q E e lE, q G r lG, b.trans (k.below b.size (fun i hi hs => hw i hi hs)), fun i hi => (hK i hi).2⟩
/-- One row more is appended. -/
theorem PRow.grown {w wr W w3 : World} {gd gb k n : Nat} {s : D} {ch : Nat → Option (List UInt8)} {P : Nat → List UInt8} {v v' : Value} {L L' : List (List UInt8)} (h : PRow w gd gb k n s ch P v L wr) (kW : Only (fun _ => False) wr W)
    (o3 : w3.ownsRow w.heap.size 9 1 v' L'.length (svs L')) (g3 : W.grownBy w3 v.ownBlock) (hv : v'.ownBlock = v.ownBlock ∨ v'.ownBlock = some W.heap.size) : PRow w gd gb k n s ch P v' L' w3 := by
  have hlow := (h.bk.new kW).low.size
  have hlv := h.row.lt
  have k3 : Only (fun i => some i = v.ownBlock) W w3 := Only.of_grown g3
  have hb := h.bk.new kW
  refine ⟨⟨hb.lv.grow k3 (fun i _ hs => hs.symm) (fun i hi hs => ?_) (fun i hi => ⟨?_, (o3.lt i hi).2⟩), hb.calm, hb.around, hb.lens⟩, o3⟩
  · have := (hlv i hs.symm).1
    omega
  · rcases hv with hv | hv
    · exact .inl (hv ▸ hi)
    · have hi' : some W.heap.size = some i := hv ▸ hi
      injection hi' with hi'
      exact .inr (by omega)
theorem svs_snoc (L : List (List UInt8)) (x : List UInt8) : svs L ++ [.string (strOf x)] = svs (L ++ [x]) := by simp [svs, sv]
theorem made_false (n : Nat) : (madeCells (Value.bool false).cells (n * 1)).toList = bvs (List.replicate n false) := by
  rw [Nat.mul_one]
  apply List.ext_getElem?
  intro j
  by_cases hj : j < n
  · simp [madeCells, hj, Nat.mod_one, Value.cells, bvs]
  · simp [madeCells, hj, bvs]
/-- Booleans, made. -/
theorem make_bools (n : Nat) (hn : n ≤ 1000000) (w : World) : ∃ w', (Instr.makeSlice 34 (.int .i64 (n : Int)) (.int .i64 (n : Int))).run Tryz.prog w = .ok (.slice (some ⟨w.heap.size, 0, none⟩) n n) w' ∧
    w'.ownsRow w.heap.size 4 1 (.slice (some ⟨w.heap.size, 0, none⟩) n n) n (bvs (List.replicate n false)) ∧ Only (fun _ => False) w w' := by
  obtain ⟨i0, hi0, hz0, hz1, hz2⟩ := info_parts Tryz.infoBool
  obtain ⟨w1, hmk, o1, g1⟩ := run_make_full (P := Tryz.prog) w w.heap.size 34 4 i0 (.bool false) 1 Tryz.underlying34 hi0 hz0 hz1 .i64 .i64 n (by rw [hz2]; omega) (by simp [maxLen]; omega) (Nat.le_refl _)
  rw [made_false] at o1
  exact ⟨w1, hmk, o1, (Only.of_grown g1).mono (fun i _ h => by cases h)⟩
/-- Between two acts: the book; the pages as they were kept, as they are now; which were changed. -/
structure PAll (w : World) (gd gb k n : Nat) (s : D) (ch : Nat → Option (List UInt8)) (P : Nat → List UInt8) (vk vn vc : Value) (Lk Ln : List (List UInt8)) (C : List Bool) (wr : World) : Prop where
  bk : PBk w (fun i => vk.ownBlock = some i ∨ vn.ownBlock = some i ∨ vc.ownBlock = some i) gd gb k n s ch P wr
  kept : wr.ownsRow w.heap.size 9 1 vk k (svs Lk)
  now : wr.ownsRow w.heap.size 9 1 vn k (svs Ln)
  chg : wr.ownsRow w.heap.size 4 1 vc k (bvs C)
  lk : Lk.length = k
  ln : Ln.length = k
  lc : C.length = k
  pk : ∀ p (h : p < Lk.length), Lk[p] = P p
  pn : ∀ p (h : p < Ln.length), Ln[p] = nowP ch P p
/-- A call of the disk or the book leaves the rows. -/
theorem rows_kept {w wr w' : World} {K : Nat → Prop} {e : TypeId} {k : Nat} {v : Value} {us : List Value} (h : wr.ownsRow w.heap.size e 1 v k us) (o : Only (fun i => ¬ K i ∧ w.heap.size ≤ i) wr w') (hK : ∀ i, v.ownBlock = some i → K i) : w'.ownsRow w.heap.size e 1 v k us :=
  owns_only h o (fun i hi hS => hS.1 (hK i hi))
end Go.Proofs.YtnhojcldeloigaaGreat
namespace Go.Proofs.YtnhojcldeloigaaGreat
open Go.RowKit Go.Lib Go.Maps
set_option maxRecDepth 100000

theorem keep_at8 {w wr : World} {n : Nat} {x : Value} {us : List Value} (h : RwIs w (fun i => i < w.heap.size) n x us) (hb : Below w.heap.size w wr) : RwIs wr (fun i => i < w.heap.size) n x us := h.only (Only.of_below hb) (fun j _ h1 h2 => by have h2 : w.heap.size ≤ j := h2; omega)
/-- Blocks that are the law's own. -/
def KS (vk vn vc : Value) (b i : Nat) : Prop := vk.ownBlock = some i ∨ vn.ownBlock = some i ∨ vc.ownBlock = some i ∨ i = b
structure RowsM (w : World) (k : Nat) (vk vn vc : Value) (Lk Ln : List (List UInt8)) (C : List Bool) (b : Nat) (cs : Array Value) (wr : World) : Prop where
  kept : wr.ownsRow w.heap.size 9 1 vk k (svs Lk)
  now : wr.ownsRow w.heap.size 9 1 vn k (svs Ln)
  chg : wr.ownsRow w.heap.size 4 1 vc k (bvs C)
  lk : Lk.length = k
  ln : Ln.length = k
  lc : C.length = k
  box : Has wr b 37 cs
  far : w.heap.size ≤ b
structure PMid (w : World) (gd gb k n : Nat) (s : D) (ch : Nat → Option (List UInt8)) (P : Nat → List UInt8) (vk vn vc : Value) (Lk Ln : List (List UInt8)) (C : List Bool) (b : Nat) (cs : Array Value) (wr : World) : Prop where
  bk : PBk w (KS vk vn vc b) gd gb k n s ch P wr
  rows : RowsM w k vk vn vc Lk Ln C b cs wr
structure PMidD (w : World) (gd gb k n : Nat) (s : D) (P : Nat → List UInt8) (vk vn vc : Value) (Lk Ln : List (List UInt8)) (C : List Bool) (b : Nat) (cs : Array Value) (wr : World) : Prop where
  dn : PDn w (KS vk vn vc b) gd gb k n s P wr
  rows : RowsM w k vk vn vc Lk Ln C b cs wr
structure PMidO (w : World) (gd k n : Nat) (s : D) (P : Nat → List UInt8) (vk vn vc : Value) (Lk Ln : List (List UInt8)) (C : List Bool) (b : Nat) (cs : Array Value) (wr : World) : Prop where
  on : POn w (KS vk vn vc b) gd k n s P wr
  rows : RowsM w k vk vn vc Lk Ln C b cs wr
theorem none_of_below {a b : World} (k : Below a.heap.size a b) : Only (fun _ => False) a b := (Only.of_below k).mono (fun i hi h => by have h : a.heap.size ≤ i := h; omega)
section
variable {w wr w' : World} {gd gb k n m : Nat} {s : D} {ch : Nat → Option (List UInt8)} {P : Nat → List UInt8} {vk vn vc v2 : Value} {Lk Ln L2 : List (List UInt8)} {C C2 : List Bool} {b : Nat} {cs : Array Value}
theorem RowsM.call (h : RowsM w k vk vn vc Lk Ln C b cs wr) (o : Only (fun i => ¬ KS vk vn vc b i ∧ w.heap.size ≤ i) wr w') : RowsM w k vk vn vc Lk Ln C b cs w' :=
  ⟨rows_kept h.kept o (fun _ hi => .inl hi), rows_kept h.now o (fun _ hi => .inr (.inl hi)), rows_kept h.chg o (fun _ hi => .inr (.inr (.inl hi))), h.lk, h.ln, h.lc, h.box.only o (fun hh => hh.1 (.inr (.inr (.inr rfl)))), h.far⟩
theorem RowsM.new (h : RowsM w k vk vn vc Lk Ln C b cs wr) (o : Only (fun _ => False) wr w') : RowsM w k vk vn vc Lk Ln C b cs w' :=
  ⟨owns_only h.kept o (fun _ _ h => h), owns_only h.now o (fun _ _ h => h), owns_only h.chg o (fun _ _ h => h), h.lk, h.ln, h.lc, h.box.only o (fun h => h), h.far⟩
theorem RowsM.cells {x0 x1 x2 x3 x4 : Value} (h : RowsM w k vk vn vc Lk Ln C b #[x0, x1, x2, x3, x4] wr) : wr.cell? ⟨b, 0, none⟩ = some x0 ∧ wr.cell? ⟨b, 1, none⟩ = some x1 ∧ wr.cell? ⟨b, 2, none⟩ = some x2 ∧ wr.cell? ⟨b, 3, none⟩ = some x3 ∧ wr.cell? ⟨b, 4, none⟩ = some x4 :=
  ⟨h.box.cell 0, h.box.cell 1, h.box.cell 2, h.box.cell 3, h.box.cell 4⟩
theorem PMid.new (h : PMid w gd gb k n s ch P vk vn vc Lk Ln C b cs wr) (o : Only (fun _ => False) wr w') : PMid w gd gb k n s ch P vk vn vc Lk Ln C b cs w' := ⟨h.bk.new o, h.rows.new o⟩
theorem PMid.below (h : PMid w gd gb k n s ch P vk vn vc Lk Ln C b cs wr) (o : Below wr.heap.size wr w') : PMid w gd gb k n s ch P vk vn vc Lk Ln C b cs w' := h.new (none_of_below o)
theorem PMid.less (h : PMid w gd gb k n s ch P vk vn vc Lk Ln C b cs wr) (hm : m ≤ n) : PMid w gd gb k m s ch P vk vn vc Lk Ln C b cs wr := ⟨h.bk.less hm, h.rows⟩
theorem PMidD.less (h : PMidD w gd gb k n s P vk vn vc Lk Ln C b cs wr) (hm : m ≤ n) : PMidD w gd gb k m s P vk vn vc Lk Ln C b cs wr := ⟨⟨h.dn.lv, h.dn.off, h.dn.pend, h.dn.calm.more hm, h.dn.around⟩, h.rows⟩
theorem PMidD.low (h : PMidD w gd gb k n s P vk vn vc Lk Ln C b cs wr) : Below w.heap.size w wr := by
  obtain ⟨ch, l⟩ := h.dn.lv
  exact l.low
theorem PAll.below (h : PAll w gd gb k n s ch P vk vn vc Lk Ln C wr) (o : Below wr.heap.size wr w') : PAll w gd gb k n s ch P vk vn vc Lk Ln C w' := by
  have o := none_of_below o
  exact ⟨h.bk.new o, owns_only h.kept o (fun _ _ h => h), owns_only h.now o (fun _ _ h => h), owns_only h.chg o (fun _ _ h => h), h.lk, h.ln, h.lc, h.pk, h.pn⟩
theorem PAll.mid (h : PAll w gd gb k n s ch P vk vn vc Lk Ln C wr) (cs : Array Value) : PMid w gd gb k n s ch P vk vn vc Lk Ln C wr.heap.size cs (wr.alloc (.cells cs 37)) := by
  have kW : Only (fun _ => False) wr (wr.alloc (.cells cs 37)) := (Only.refl _ wr).alloc _
  have hB := Has.new wr 37 cs
  have hs := kW.size
  refine ⟨h.bk.more kW (fun i hi => ?_), owns_only h.kept kW (fun _ _ h => h), owns_only h.now kW (fun _ _ h => h), owns_only h.chg kW (fun _ _ h => h), h.lk, h.ln, h.lc, hB, h.bk.low.size⟩
  rcases hi with hi | hi | hi | hi
  · exact ⟨.inl (.inl hi), Nat.lt_of_lt_of_le (h.kept.lt i hi).2 hs⟩
  · exact ⟨.inl (.inr (.inl hi)), Nat.lt_of_lt_of_le (h.now.lt i hi).2 hs⟩
  · exact ⟨.inl (.inr (.inr hi)), Nat.lt_of_lt_of_le (h.chg.lt i hi).2 hs⟩
  · exact ⟨.inr (by omega), by have := hB.lt; omega⟩
theorem PBk.fewer {K K' : Nat → Prop} (h : PBk w K gd gb k n s ch P wr) (hK : ∀ i, K' i → K i) : PBk w K' gd gb k n s ch P wr := ⟨h.lv.fewer hK, h.calm, h.around, h.lens⟩
theorem PMid.all (h : PMid w gd gb k n s ch P vk vn vc Lk Ln C b cs wr) (hm : m ≤ n) (pk : ∀ p (h : p < Lk.length), Lk[p] = P p) (pn : ∀ p (h : p < Ln.length), Ln[p] = nowP ch P p) : PAll w gd gb k m s ch P vk vn vc Lk Ln C wr := by
  refine ⟨(h.bk.fewer (fun i hi => ?_)).less hm, h.rows.kept, h.rows.now, h.rows.chg, h.rows.lk, h.rows.ln, h.rows.lc, pk, pn⟩
  rcases hi with hi | hi | hi
  · exact .inl hi
  · exact .inr (.inl hi)
  · exact .inr (.inr (.inl hi))
/-- What is now is kept. -/
theorem PMid.keep (h : PMid w gd gb k n s ch P vk vn vc Lk Ln C b cs wr) : PMid w gd gb k n s ch P vn vn vc Ln Ln C b cs wr := by
  refine ⟨h.bk.fewer (fun i hi => ?_), h.rows.now, h.rows.now, h.rows.chg, h.rows.ln, h.rows.ln, h.rows.lc, h.rows.box, h.rows.far⟩
  rcases hi with hi | hi | hi | hi
  · exact .inr (.inl hi)
  · exact .inr (.inl hi)
  · exact .inr (.inr (.inl hi))
  · exact .inr (.inr (.inr hi))
/-- What was kept is now. -/
theorem PMid.back (h : PMid w gd gb k n s ch P vk vn vc Lk Ln C b cs wr) : PMid w gd gb k n s ch P vk vk vc Lk Lk C b cs wr := by
  refine ⟨h.bk.fewer (fun i hi => ?_), h.rows.kept, h.rows.kept, h.rows.chg, h.rows.lk, h.rows.lk, h.rows.lc, h.rows.box, h.rows.far⟩
  rcases hi with hi | hi | hi | hi
  · exact .inl hi
  · exact .inl hi
  · exact .inr (.inr (.inl hi))
  · exact .inr (.inr (.inr hi))
/-- Another row of what is now, just made. -/
theorem PMid.now (h : PMid w gd gb k n s ch P vk vn vc Lk Ln C b cs wr) (o : Below wr.heap.size wr w') (r : w'.ownsRow wr.heap.size 9 1 v2 k (svs L2)) (l2 : L2.length = k) : PMid w gd gb k n s ch P vk v2 vc Lk L2 C b cs w' := by
  have q := none_of_below o
  have R := h.rows.new q
  refine ⟨h.bk.more q (fun i hi => ?_), R.kept, owns_base r h.bk.low.size, R.chg, R.lk, l2, R.lc, R.box, R.far⟩
  rcases hi with hi | hi | hi | hi
  · exact ⟨.inl (.inl hi), (R.kept.lt i hi).2⟩
  · exact ⟨.inr (r.lt i hi).1, (r.lt i hi).2⟩
  · exact ⟨.inl (.inr (.inr (.inl hi))), (R.chg.lt i hi).2⟩
  · exact ⟨.inl (.inr (.inr (.inr hi))), by rw [hi]; exact R.box.lt⟩
/-- Other marks, just made. -/
theorem PMid.marks (h : PMid w gd gb k n s ch P vk vn vc Lk Ln C b cs wr) (q : Only (fun _ => False) wr w') (r : w'.ownsRow wr.heap.size 4 1 v2 k (bvs C2)) (l2 : C2.length = k) : PMid w gd gb k n s ch P vk vn v2 Lk Ln C2 b cs w' := by
  have R := h.rows.new q
  refine ⟨h.bk.more q (fun i hi => ?_), R.kept, R.now, owns_base r h.bk.low.size, R.lk, R.ln, l2, R.box, R.far⟩
  rcases hi with hi | hi | hi | hi
  · exact ⟨.inl (.inl hi), (R.kept.lt i hi).2⟩
  · exact ⟨.inl (.inr (.inl hi)), (R.now.lt i hi).2⟩
  · exact ⟨.inr (r.lt i hi).1, (r.lt i hi).2⟩
  · exact ⟨.inl (.inr (.inr (.inr hi))), by rw [hi]; exact R.box.lt⟩
/-- One mark is set. -/
theorem PMid.set {q c : Nat} (h : PMid w gd gb k n s ch P vk vn (.slice (some ⟨q, 0, none⟩) k c) Lk Ln C b cs wr) (p : Nat) : PMid w gd gb k n s ch P vk vn (.slice (some ⟨q, 0, none⟩) k c) Lk Ln (C.set p true) b cs (wr.setCell ⟨q, p, none⟩ (.bool true)) := by
  have hk2 : Only (fun i => i = q) wr (wr.setCell ⟨q, p, none⟩ (.bool true)) := (Only.refl (fun i => i = q) wr).setCell (p := ⟨q, p, none⟩) (fun _ => rfl) _
  have hq := (h.rows.chg.lt q rfl).1
  obtain ⟨cur, hh⟩ : ∃ cur, Has wr q 4 cur := by
    rcases id h.rows.chg.2 with ⟨h0, _⟩ | ⟨g', cap', cur, e, _, hh, _⟩
    · cases h0
    · injection e with e _ _
      injection e with e
      injection e with e _ _
      subst e
      exact ⟨cur, hh⟩
  have n1 := owns_ne h.rows.kept hh (by decide)
  have n2 := owns_ne h.rows.now hh (by decide)
  have o2 := (World.ownsRow.stored h.rows.chg p (.bool true)).1
  have e2 : (bvs C).set p (.bool true) = bvs (C.set p true) := by simp [bvs, List.map_set]
  rw [e2] at o2
  exact ⟨h.bk.far hk2 (fun i _ hi => .inr (.inr (.inl (by rw [hi]; rfl)))) (fun i hi e => by omega), owns_only h.rows.kept hk2 (fun i hi e => n1 (by rw [← e]; exact hi.symm)), owns_only h.rows.now hk2 (fun i hi e => n2 (by rw [← e]; exact hi.symm)), o2, h.rows.lk, h.rows.ln, by rw [List.length_set]; exact h.rows.lc, h.rows.box.only hk2 (fun e => (h.rows.box.ne hh (by decide)) e), h.rows.far⟩
end
section
variable (w wr : World) (gd gb k n : Nat) (s : D) (ch : Nat → Option (List UInt8)) (P : Nat → List UInt8) (vk vn vc : Value) (Lk Ln : List (List UInt8)) (C : List Bool) (b : Nat) (cs : Array Value)
theorem mid_write_bad (h : PMid w gd gb k n s ch P vk vn vc Lk Ln C b cs wr) (i : Int) (hi : ¬ (0 ≤ i ∧ i < (k : Int))) (x : Value) (lo hi' : Nat) (bs : List UInt8) (hx : SlIs wr lo hi' x bs) (hhi : hi' ≤ wr.heap.size) (hb : bs.length = 48) :
    Calls Tryz.prog 12 #[.pointer (some ⟨gb, 0, none⟩), .int .i64 i, x] wr fun e w' => e = .returned (.int .i64 1) ∧ PMid w gd gb k n s ch P vk vn vc Lk Ln C b cs w' := by
  have c := play_write w wr _ gd gb k n s ch P h.bk i x lo hi' bs hx hhi hb
  unfold writeCh at c
  rw [if_neg hi, if_neg hi] at c
  exact c.mono fun e w' hh => ⟨hh.1, hh.2.1, h.rows.call hh.2.2⟩
theorem mid_write (h : PMid w gd gb k n s ch P vk vn vc Lk Ln C b cs wr) (p : Nat) (hp : p < k) (x : Value) (lo hi' : Nat) (bs : List UInt8) (hx : SlIs wr lo hi' x bs) (hhi : hi' ≤ wr.heap.size) (hb : bs.length = 48) :
    Calls Tryz.prog 12 #[.pointer (some ⟨gb, 0, none⟩), .int .i64 (p : Int), x] wr fun e w' => e = .returned (.int .i64 0) ∧ PMid w gd gb k n s (updCh ch p bs) P vk vn vc Lk Ln C b cs w' := by
  have c := play_write w wr _ gd gb k n s ch P h.bk (p : Int) x lo hi' bs hx hhi hb
  have hi : 0 ≤ (p : Int) ∧ (p : Int) < (k : Int) := by omega
  unfold writeCh at c
  rw [if_pos hi, if_pos hi, Int.toNat_natCast] at c
  exact c.mono fun e w' hh => ⟨hh.1, hh.2.1, h.rows.call hh.2.2⟩
theorem mid_commit (h : PMid w gd gb k (n + 1100) s ch P vk vn vc Lk Ln C b cs wr) :
    Calls Tryz.prog 15 #[.pointer (some ⟨gb, 0, none⟩)] wr fun e w' => (∃ s', e = .returned (.int .i64 0) ∧ PMid w gd gb k n s' noCh (nowP ch P) vk vn vc Lk Ln C b cs w') ∨ (∃ s', e = .returned (.int .i64 22) ∧ PMidD w gd gb k n s' P vk vn vc Lk Ln C b cs w') :=
  (play_commit w wr _ gd gb k n s ch P h.bk).mono fun e w' hh => by
    obtain ⟨hh, o⟩ := hh
    rcases hh with ⟨s', rfl, q⟩ | ⟨s', rfl, q⟩
    · exact .inl ⟨s', rfl, q, h.rows.call o⟩
    · exact .inr ⟨s', rfl, q, h.rows.call o⟩
theorem mid_abort (h : PMid w gd gb k n s ch P vk vn vc Lk Ln C b cs wr) : Calls Tryz.prog 16 #[.pointer (some ⟨gb, 0, none⟩)] wr fun e w' => e = .returned (.tuple #[]) ∧ PMid w gd gb k n s noCh P vk vn vc Lk Ln C b cs w' :=
  (play_abort w wr _ gd gb k n s ch P h.bk).mono fun _ _ hh => ⟨hh.1, hh.2.1, h.rows.call hh.2.2⟩
theorem mid_arm (h : PMid w gd gb k n s ch P vk vn vc Lk Ln C b cs wr) (x : Int) (hx : x ≤ 9223372036854775807) (keep : List Bool) (y : Value) (hy : RwIs w (fun i => i < w.heap.size) keep.length y (bvs keep)) (hl : keep.length ≤ 100) :
    Calls Tryz.prog 19 #[.pointer (some ⟨gd, 0, none⟩), .int .i64 x, y] wr fun e w' => e = .returned (.tuple #[]) ∧ PMid w gd gb k n (s.arm x keep) ch P vk vn vc Lk Ln C b cs w' :=
  (play_arm w wr _ gd gb k n s ch P h.bk x hx keep y _ (keep_at8 hy h.bk.low) (by omega)).mono fun _ _ hh => ⟨hh.1, hh.2.1, h.rows.call hh.2.2⟩
theorem mid_cut (h : PMid w gd gb k n s ch P vk vn vc Lk Ln C b cs wr) (keep : List Bool) (y : Value) (hy : RwIs w (fun i => i < w.heap.size) keep.length y (bvs keep)) :
    Calls Tryz.prog 18 #[.pointer (some ⟨gd, 0, none⟩), y] wr fun e w' => e = .returned (.tuple #[]) ∧ PMidD w gd gb k n (s.cut keep) P vk vn vc Lk Ln C b cs w' :=
  (play_cut w wr _ gd gb k n s ch P h.bk keep y _ (keep_at8 hy h.bk.low) (fun _ hi => .inr hi)).mono fun _ _ hh => ⟨hh.1, hh.2.1, h.rows.call hh.2.2⟩
theorem mid_again (h : PMidD w gd gb k n s P vk vn vc Lk Ln C b cs wr) (keep : List Bool) (y : Value) (hy : RwIs w (fun i => i < w.heap.size) keep.length y (bvs keep)) :
    Calls Tryz.prog 18 #[.pointer (some ⟨gd, 0, none⟩), y] wr fun e w' => e = .returned (.tuple #[]) ∧ PMidD w gd gb k n (s.cut keep) P vk vn vc Lk Ln C b cs w' :=
  (play_again w wr _ gd gb k n s P h.dn keep y _ (keep_at8 hy h.low) (fun _ hi => .inr hi)).mono fun _ _ hh => ⟨hh.1, hh.2.1, h.rows.call hh.2.2⟩
theorem mid_on (h : PMidD w gd gb k n s P vk vn vc Lk Ln C b cs wr) : Calls Tryz.prog 20 #[.pointer (some ⟨gd, 0, none⟩)] wr fun e w' => e = .returned (.tuple #[]) ∧ PMidO w gd k n { s with off := false } P vk vn vc Lk Ln C b cs w' :=
  (play_on w wr _ gd gb k n s P h.dn).mono fun _ _ hh => ⟨hh.1, hh.2.1, h.rows.call hh.2.2⟩
theorem mid_open (h : PMidO w gd k n s P vk vn vc Lk Ln C b cs wr) : Calls Tryz.prog 21 #[.pointer (some ⟨gd, 0, none⟩), .int .i64 2, .int .i64 ((3 * k + 16 : Nat) : Int)] wr fun e w' => ∃ gb2, e = .returned (.tuple #[.pointer (some ⟨gb2, 0, none⟩), .int .i64 0]) ∧ PMid w gd gb2 k n s noCh P vk vn vc Lk Ln C b cs w' :=
  (play_open w wr _ gd k n s P h.on).mono fun e w' hh => by
    obtain ⟨gb2, rfl, q, o⟩ := hh
    exact ⟨gb2, rfl, q, h.rows.new (none_of_below o)⟩
theorem row_shows {K : Nat → Prop} (h : PBk w K gd gb k n s ch P wr) (hn : wr.ownsRow w.heap.size 9 1 vn k (svs Ln)) (hl : Ln.length = k) (k1 : 1 ≤ k) :
    Calls Tryz.prog 22 #[.pointer (some ⟨gb, 0, none⟩), vn] wr fun e w' => (∃ b, e = .returned (.bool b) ∧ (b = true ↔ showsOk k ch P Ln)) ∧ Below wr.heap.size wr w' := by
  obtain ⟨q, c, rfl, _, _⟩ := owns_some hn (by omega)
  have hr := (RwIs.of_own hn).mono (F := fun i => i < wr.heap.size) (fun i hi _ => hi)
  have := shows8_any w wr _ gd gb s (g83 k) ch P n h.lv h.calm (fun p bs hp => by rw [h.lens p bs hp]; decide) (some ⟨q, 0, none⟩) c Ln (by rw [hl]; exact hr) hl
  rw [hl] at this
  exact this
theorem row_with (hn : wr.ownsRow w.heap.size 9 1 vn k (svs Ln)) (hl : Ln.length = k) (p : Nat) (hp : p < k) (hk : k ≤ 8) (X : List UInt8) :
    Calls Tryz.prog 14 #[vn, .int .i64 (p : Int), .string (strOf X)] wr fun e w' => ∃ v2, e = .returned v2 ∧ w'.ownsRow wr.heap.size 9 1 v2 k (svs (Ln.set p X)) ∧ Below wr.heap.size wr w' := by
  obtain ⟨q, c, rfl, _, _⟩ := owns_some hn (by omega)
  have := with8_any _ (some ⟨q, 0, none⟩) c Ln p X wr (by rw [hl]; exact RwIs.of_own hn) (by omega) (by omega)
  rw [hl] at this
  exact this.mono fun e w' hh => by
    obtain ⟨q2, c2, rfl, r, o⟩ := hh
    exact ⟨_, rfl, r, o⟩
end
theorem nowP_set {ch : Nat → Option (List UInt8)} {P : Nat → List UInt8} {L : List (List UInt8)} {x : List UInt8} {p : Nat} (h : ∀ i (h : i < L.length), L[i] = nowP ch P i) : ∀ i (h : i < (L.set p x).length), (L.set p x)[i] = nowP (updCh ch p x) P i := fun i hi => by
  rw [List.getElem_set]
  by_cases e : p = i
  · subst e
    rw [if_pos rfl]
    simp [nowP, updCh]
  · have e2 : ¬ i = p := fun e' => e e'.symm
    rw [if_neg e, h i (by simpa using hi)]
    simp [nowP, updCh, e2]
end Go.Proofs.YtnhojcldeloigaaGreat
