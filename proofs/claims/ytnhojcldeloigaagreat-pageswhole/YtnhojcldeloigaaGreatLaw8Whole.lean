/-
  PagesWhole: pages written with one number in each commit are never told apart.
-/
import Derived.Test.YtnhojcldeloigaaGreatLaw8Page
namespace Go.Proofs.YtnhojcldeloigaaGreat
open Go.RowKit Go.Lib Go.Maps
set_option maxRecDepth 100000

/-- All pages are one. -/
def Even (k : Nat) (P : Nat → List UInt8) : Prop := ∀ p, p < k → P p = P 0
def chJ (v j : Nat) : Nat → Option (List UInt8) := fun p => if p < j then some (pageB v) else none
theorem chJ_zero (v : Nat) : chJ v 0 = noCh := by
  funext p
  simp [chJ, noCh]
theorem chJ_next (v j : Nat) : updCh (chJ v j) j (pageB v) = chJ v (j + 1) := by
  funext p
  simp only [updCh, chJ]
  by_cases h : p = j
  · rw [if_pos h, if_pos (by omega)]
  · rw [if_neg h]
    by_cases h2 : p < j
    · rw [if_pos h2, if_pos (by omega)]
    · rw [if_neg h2, if_neg (by omega)]
theorem chJ_len (v j : Nat) : ∀ p bs, chJ v j p = some bs → bs.length = 48 := fun p bs h => by
  unfold chJ at h
  split at h
  · injection h with h
    rw [← h]
    exact pageB_len v
  · cases h
def lensOk (ch : Nat → Option (List UInt8)) : Prop := ∀ p bs, ch p = some bs → bs.length = 48
def g82 (k : Nat) : BG := ⟨0, 3 * k + 16, 64, k⟩
theorem calm_arm {g : BG} {s : D} {P : Nat → List UInt8} {n : Nat} (h : Calm g s P n) (x : Nat) (hx : x < 256) (keep : List Bool) : Calm g (s.arm (x : Int) keep) P n := by
  refine ⟨⟨h.rest.on, h.rest.pend, h.rest.size, h.rest.ok, h.rest.rep⟩, ⟨h.ok.pos, h.ok.most, h.ok.small, h.ok.sect, h.ok.long, h.ok.longp⟩, ?_, h.writes⟩
  show (if (x : Int) < 1 then 1 else (x : Int).toNat) ≤ _
  split <;> omega
/-- Behind some turns. -/
def TurnW (w : World) (gd gb : Nat) (k n : Nat) (wr : World) : Prop :=
  ∃ s ch P, Lv w (fun _ => False) gd s gb (g82 k) ch wr ∧ Calm (g82 k) { s with off := false } P n ∧ (s.off = false → ch = noCh) ∧ lensOk ch ∧ Even k P
/-- Between two cuts. -/
def CutW (w : World) (gd gb : Nat) (k n : Nat) (wr : World) : Prop :=
  ∃ s P, Lv w (fun _ => False) gd s gb (g82 k) noCh wr ∧ Calm (g82 k) s P n ∧ Even k P
theorem off_same {s : D} (h : s.off = false) : { s with off := false } = s := by
  obtain ⟨a, b, c, d, e, f, g⟩ := s
  simp only at h
  rw [h]
section
variable (w : World)
/-- One commit of pages that are one. -/
theorem whole_commit (gd gb k n v : Nat) (wr : World) (s : D) (P : Nat → List UInt8) (hl : Lv w (fun _ => False) gd s gb (g82 k) (chJ v k) wr) (hc : Calm (g82 k) s P (n + 1100)) (he : Even k P) (hk : 1 ≤ k) :
    Calls Tryz.prog 15 #[.pointer (some ⟨gb, 0, none⟩)] wr fun e w' => (∃ r, e = .returned (.int .i64 r)) ∧ TurnW w gd gb k n w' ∧ Below w.heap.size w w' := by
  obtain ⟨lt, sl, hr⟩ := hc.rest.rep
  have hrs : Rep (g82 k) s.seen lt sl P := by rw [hc.rest.seen]; exact hr
  have C := lv_commit w wr _ gd s gb (g82 k) (chJ v k) hl lt sl P hrs hc.rest.on (hc.room (by omega)) (chJ_len v k)
  refine C.mono ?_
  rintro e w' ⟨rfl, l, o⟩
  refine ⟨⟨_, rfl⟩, ?_, l.low⟩
  rcases commit_calm hc hr (chJ_len v k) with ⟨q1, _, q3, _⟩ | ⟨q1, _, q2, q3, q4, _⟩
  · rw [q1] at l
    refine ⟨(commitD (g82 k) s lt sl (chJ v k)).2, noCh, fun p => (chJ v k p).getD (P p), l, ?_, fun _ => rfl, fun p bs h => (by cases h), ?_⟩
    · rw [off_same q3.rest.on]
      exact q3
    · intro p hp
      simp only [chJ]
      rw [if_pos hp, if_pos (by omega)]
      rfl
  · rw [q1] at l
    exact ⟨_, chJ v k, P, l, q3, fun h => absurd (h.symm.trans q2) (by decide), chJ_len v k, he⟩
/-- One page of them. -/
theorem whole_write (gd gb k v j : Nat) (wr : World) (s : D) (hl : Lv w (fun _ => False) gd s gb (g82 k) (chJ v j) wr) (hj : j < k) (lo hi : Nat) (x : Value) (hx : SlIs wr lo hi x (pageB v)) (hhi : hi ≤ wr.heap.size) :
    Calls Tryz.prog 12 #[.pointer (some ⟨gb, 0, none⟩), .int .i64 (j : Int), x] wr fun e w' => e = .returned (.int .i64 0) ∧ Lv w (fun _ => False) gd s gb (g82 k) (chJ v (j + 1)) w' := by
  have C := lv_write w wr _ gd s gb (g82 k) (chJ v j) hl lo hi (j : Int) x (pageB v) hx hhi
  have e1 : writeR (g82 k) (j : Int) (pageB v) = 0 := by
    unfold writeR
    rw [if_pos ⟨by omega, by show (j : Int) < (k : Int); omega, pageB_len v⟩]
  have e2 : writeC (g82 k) (chJ v j) (j : Int) (pageB v) = chJ v (j + 1) := by
    unfold writeC
    rw [if_pos e1]
    exact chJ_next v j
  rw [e1, e2] at C
  exact C.mono fun e w' hh => ⟨hh.1, hh.2.1⟩
/-- The book is opened again. -/
theorem whole_open (gd k n : Nat) (wr : World) (s : D) (P : Nat → List UInt8) (hl : Live w (fun _ => False) gd s wr) (hc : Calm (g82 k) s P n) :
    Calls Tryz.prog 21 #[.pointer (some ⟨gd, 0, none⟩), .int .i64 0, .int .i64 ((3 * k + 16 : Nat) : Int)] wr fun e w' => ∃ gb2, e = .returned (.tuple #[.pointer (some ⟨gb2, 0, none⟩), .int .i64 0]) ∧ Lv w (fun _ => False) gd s gb2 (g82 k) noCh w' := by
  obtain ⟨e3, ok3⟩ := open_of_rest hc.rest
  have e3 : openG s 0 (3 * k + 16) = g82 k := e3
  refine (lv_open w wr _ gd s hl 0 (3 * k + 16) hc.rest.on (by rw [← hc.rest.size]; show 64 ≤ 64; decide) hc.there (by rw [e3]; exact ok3)).mono fun e w' hh => ?_
  obtain ⟨gb2, rfl, l, _⟩ := hh
  rw [e3] at l
  exact ⟨gb2, rfl, l⟩
/-- A page is read. -/
theorem whole_read (gd gb k n j : Nat) (wr : World) (s : D) (P : Nat → List UInt8) (hl : Lv w (fun _ => False) gd s gb (g82 k) noCh wr) (hc : Calm (g82 k) s P n) (he : Even k P) (hj : j < k) :
    Calls Tryz.prog 26 #[.pointer (some ⟨gb, 0, none⟩), .int .i64 (j : Int)] wr fun e w' => ∃ A c, e = .returned (.tuple #[.slice A (P 0).length c, .int .i64 0]) ∧ SlIs w' wr.heap.size w'.heap.size (.slice A (P 0).length c) (P 0) ∧ Below wr.heap.size wr w' := by
  obtain ⟨lt, sl, hr⟩ := hc.rest.rep
  have hrs : Rep (g82 k) s.seen lt sl P := by rw [hc.rest.seen]; exact hr
  have C := lv_read w wr _ gd s gb (g82 k) noCh hl (j : Int) lt sl P (fun _ => hrs) (fun p bs hp => by cases hp)
  have e : readR (g82 k) s noCh P (j : Int) = (0, P 0) := by
    unfold readR
    rw [if_pos ⟨by omega, by show (j : Int) < (k : Int); omega⟩, if_neg (by rw [hc.rest.on]; decide)]
    show (0, P (j : Int).toNat) = _
    rw [Int.toNat_natCast, he j hj]
  rw [e] at C
  exact C
def k82 (k : Nat) : D := D.new 64 (List.replicate (3 * k + 16) (List.replicate 64 0))
theorem k82_ok {k : Nat} (hk : k ≤ 8) : (k82 k).Ok := D.new_ok (by simp) (by simp; omega) (by decide) (fun y hy => by rw [(List.mem_replicate.1 hy).2]; simp)
theorem k82_len (k : Nat) : (k82 k).kept.length = 3 * k + 16 := by
  show (List.replicate (3 * k + 16) (List.replicate 64 (0 : UInt8))).length = _
  simp
theorem g82_ok {k : Nat} (h1 : 1 ≤ k) (h2 : k ≤ 8) : (g82 k).Ok (k82 k).kept.length := by
  rw [k82_len]
  exact ⟨by show 64 ≤ 64; decide, by show 64 ≤ 1024; decide, h1, by show k ≤ 1024; omega, by show 3 * k + 16 ≤ 3 * k + 16; omega, by show 0 + (3 * k + 16) ≤ _; omega, by omega⟩
theorem whole_new (k : Nat) (h1 : 1 ≤ k) (h2 : k ≤ 8) (w1 : World) (b1 : Below w.heap.size w w1) : Calls Tryz.prog 9 #[.int .i64 ((3 * k + 16 : Nat) : Int), .int .i64 64] w1 fun e w2 => ∃ gd, e = .returned (.tuple #[.pointer (some ⟨gd, 0, none⟩), .int .i64 0]) ∧ Live w (fun _ => False) gd (k82 k) w2 := (disknew_any ((3 * k + 16 : Nat) : Int) 64 w1).mono fun e w2 hN => by
  rw [NewAns, if_pos (by unfold mayB; simp; omega)] at hN
  obtain ⟨v, rfl, hm⟩ := hN
  obtain ⟨gd, rfl, L0, _⟩ := Live.made b1 (K := fun _ => False) (fun _ h => h.elim) hm
  exact ⟨gd, rfl, L0⟩
theorem whole_format (k : Nat) (h1 : 1 ≤ k) (h2 : k ≤ 8) (gd : Nat) (w2 : World) (l2 : Live w (fun _ => False) gd (k82 k) w2) : Calls Tryz.prog 10 #[.pointer (some ⟨gd, 0, none⟩), .int .i64 0, .int .i64 ((3 * k + 16 : Nat) : Int), .int .i64 (k : Int)] w2 fun e w' => ∃ gb, e = .returned (.tuple #[.pointer (some ⟨gb, 0, none⟩), .int .i64 0]) ∧ CutW w gd gb k 900000 w' := by
  obtain ⟨f1, _, f3, _⟩ := format_calm (g := g82 k) (s := k82 k) (n := 900000) (k82_ok h2) (g82_ok h1 h2) rfl rfl rfl rfl (by show 0 + 900000 ≤ 999990; decide)
  refine (lv_format w w2 _ gd (k82 k) l2 0 (3 * k + 16) k rfl (by show 64 ≤ 64; decide) (by rw [k82_len]; exact decide_eq_true ⟨by omega, by omega, by omega, by omega⟩) ((mayH_iff _ _).2 ⟨h1, by omega, by omega⟩) ⟨by show 0 + 10 ≤ 1000000; decide, by show 0 ≤ 9223372036854775807; decide, by show 0 + 10 ≤ 1000000; decide⟩ f1).mono ?_
  rintro e w' ⟨gb, rfl, l3, _⟩
  exact ⟨gb, rfl, _, fun _ => zpage 64, l3, f3, fun p _ => rfl⟩
end
end Go.Proofs.YtnhojcldeloigaaGreat
