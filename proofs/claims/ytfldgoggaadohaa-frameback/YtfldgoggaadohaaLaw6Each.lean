/-
  FrameEach: bytes that come one by one make the same bodies as all at once; the walk.
-/
import Derived.Test.YtfldgoggaadohaaLaw6Known
namespace Go.Proofs.Ytfldgoggaadohaa
open Go.RowKit
set_option maxRecDepth 100000

/-- A stream that is fed, and the list of what it told so far; w5: the world ahead of it. -/
def FedInv (w5 : World) (B gt : Nat) (m : Int) (bs : List UInt8) (ov : Value) (wr : World) : Prop :=
  ∃ tv xs held dead, cut m bs = (xs, held, dead) ∧ StAt 47 wr B gt tv held dead ∧ (∀ i, tv.ownBlock = some i → w5.heap.size ≤ i) ∧ LsAt wr (fun i => w5.heap.size ≤ i ∧ ¬ Foot gt tv i) ov xs ∧ Only (fun i => i = gt) w5 wr
section
variable {w5 wr w2 w3 : World} {B gt : Nat} {m : Int} {bs b : List UInt8} {ov ov' tv v : Value} {held : List UInt8} {dead : Bool} {xs : List (List UInt8)} {us news : List Value}
/-- One piece more. -/
theorem FedInv.step (hc : cut m bs = (xs, held, dead)) (ht : ∀ i, tv.ownBlock = some i → w5.heap.size ≤ i) (hl : LsAt wr (fun i => w5.heap.size ≤ i ∧ ¬ Foot gt tv i) ov xs) (hk : Only (fun i => i = gt) w5 wr) (hg : gt < w5.heap.size)
    (hF : FeedStep 47 wr B gt tv (feedS m held dead b) (.returned v) w2) :
    ∃ us news, w2.ownsRow 0 22 1 ov us.length us ∧ VsIs w2 v news ∧ (∀ u ∈ news, u.oneCell' = true) ∧ us.length = xs.length ∧ news.length = (feedS m held dead b).1.length ∧
      ∀ ov' w3, w3.ownsRow 0 22 1 ov' (us ++ news).length (us ++ news) → w2.grownBy w3 ov.ownBlock → (ov'.ownBlock = ov.ownBlock ∨ ov'.ownBlock = some w2.heap.size) → FedInv w5 B gt m (bs ++ b) ov' w3 := by
  obtain ⟨v', tv', ev, l2, s2, k2, f2⟩ := hF
  injection ev with ev
  subst ev
  have hs5 := hk.size
  have hs2 := k2.size
  have lo2 := hl.fed k2 f2
  have lv2 := l2.told (g := gt) (by omega)
  obtain ⟨us, q1, q2, q3⟩ := id lo2
  obtain ⟨news, r1, r2, r3⟩ := id lv2
  have hob : ∀ i, ov.ownBlock = some i → i < wr.heap.size := by
    obtain ⟨us', p1, _⟩ := hl
    exact fun i hi => (p1.lt i hi).2
  refine ⟨us, news, q1, VsIs.of_own r1, r3.one, q3.len, r3.len, fun ov' w3 h1 h2 h3 => ?_⟩
  have hfc := feed_cut (b := b) (ys := (feedS m held dead b).1) (held' := (feedS m held dead b).2.1) (dead' := (feedS m held dead b).2.2) hc rfl
  have hg3 := LsAt.grow (E := fun i => w5.heap.size ≤ i ∧ ¬ Foot gt tv' i) h1 h2 h3 q2 q3 (Els.mono (fun i hi hE => ⟨⟨by omega, hE.1.2⟩, fun e => by have := hob i e; omega⟩) r3) ⟨by omega, fun e => by have := s2.foot_lt e; omega⟩
  have k3 := Only.of_grown h2
  refine ⟨tv', _, _, _, hfc, s2.only k3 (fun i hi e => (q2 i e.symm).2 hi), ?_, hg3, ?_⟩
  · intro i hi
    rcases f2 i hi with h | h
    · exact ht i h
    · omega
  · refine (hk.trans k2 (fun i hi e => ?_)).trans k3 (fun i hi e => ?_)
    · rcases e with e | e
      · exact e
      · have := ht i e
        omega
    · have := (q2 i e.symm).1
      omega
end

theorem sl_piece {w : World} {lo hi : Nat} {A : Option Addr} {c i j : Nat} {bs : List UInt8} (h : SlIs w lo hi (.slice A bs.length c) bs) (hi' : i ≤ j) (hj : j ≤ bs.length) {D : Option Addr} (hD : D = if c = i then A else A.map (·.add i)) :
    SlIs w lo hi (.slice D (j - i) (c - i)) ((bs.take j).drop i) := by
  obtain ⟨A', c', e, h1, h2, h3⟩ := h
  injection e with e1 _ e2
  subst e1 e2
  have hl : (bs.take j).length = j := by rw [List.length_take]; omega
  have q := (h3.take j).drop (k := i) (cap := c) (by omega) (by omega)
  rw [← hD] at q
  exact ⟨D, c - i, by rw [List.length_drop, hl], by rw [List.length_drop, hl]; omega, by omega, q⟩

set_option maxHeartbeats 4000000 in
theorem each_walk (A : Option Addr) (c : Nat) (bs : List UInt8) (w : World) (hx : SlIs w 0 w.heap.size (.slice A bs.length c) bs) (hl : bs.length ≤ 300) :
    Calls Try.prog 6 #[.slice A bs.length c] w fun e w' => e = .returned (.bool true) ∧ Below w.heap.size w w' := by
  obtain ⟨i0, hi0, hz0, hz1, hz2⟩ := info_parts Try.infoBytes
  have hd : decide ((300 : Int) < (bs.length : Int)) = false := decide_eq_false (by omega)
  have hcl : bs.length ≤ c ∧ c ≤ maxLen := by
    obtain ⟨A', c', e, h1, h2, _⟩ := hx
    injection e with _ _ e2
    subst e2
    exact ⟨h1, h2⟩
  obtain ⟨hc1, hc2⟩ := hcl
  simp only [maxLen] at hc2
  have HX := Lib.hid hx
  clear hx
  go_enter Try.func6, Try.ntmps6
  go_wp2_with fail
  refine (known6 w).mono ?_
  rintro e w1 ⟨rfl, b1⟩
  have B1 := Lib.hid b1
  have hs1 := b1.size
  clear b1
  go_wp2_with fail
  refine (new_any w1).mono ?_
  rintro e w2 ⟨rfl, rfl⟩
  go_wp2_with fail
  refine (new_any _).mono ?_
  rintro e w3 ⟨rfl, rfl⟩
  have S2 := StAt.new (t := 47) w1 w.heap.size hs1
  have T3 := StAt.new (t := 47) (w1.alloc (.cells #[.slice none 0 0, .bool false] 47)) w.heap.size (by simp; omega)
  have S3 := S2.only ((Only.refl (fun _ => False) _).alloc (.cells #[.slice none 0 0, .bool false] 47)) (fun _ _ h => h)
  have B3 := (B1.out.alloc hs1 (.cells #[.slice none 0 0, .bool false] 47)).alloc (by simp; omega) (.cells #[.slice none 0 0, .bool false] 47)
  obtain ⟨w3, hw3⟩ : ∃ w3, w3 = (w1.alloc (.cells #[.slice none 0 0, .bool false] 47)).alloc (.cells #[.slice none 0 0, .bool false] 47) := ⟨_, rfl⟩
  have hs3 : w3.heap.size = w1.heap.size + 2 := by rw [hw3]; simp
  have e2 : (w1.alloc (.cells #[.slice none 0 0, .bool false] 47)).heap.size = w1.heap.size + 1 := by simp
  rw [e2] at T3
  rw [← hw3] at S3 T3 B3
  obtain ⟨gs, hgs⟩ : ∃ gs, gs = w1.heap.size := ⟨_, rfl⟩
  rw [e2, ← hw3, ← hgs]
  rw [← hgs] at S3 T3 hs3
  obtain ⟨gt, hgt⟩ : ∃ gt, gt = gs + 1 := ⟨_, rfl⟩
  rw [← hgt] at T3 ⊢
  have X3 := HX.out.only (Only.of_below B3) (Nat.le_refl _) (fun i _ hi h => by omega)
  have C4 := Lib.hid (feed_any w.heap.size gs _ _ [] bs false 100 _ _ w3 S3 X3 (by omega) (by simp; omega))
  have hfe : feedS 100 [] false bs = cut 100 bs := rfl
  rw [hfe] at C4
  have HS3 := Lib.hid S3
  have HT3 := Lib.hid T3
  have HB3 := Lib.hid B3
  have hlow : w.heap.size ≤ gs := S3.low
  have hglt : gs < gt ∧ gt < w3.heap.size := by omega
  clear S2 S3 T3 B3 hw3 e2 B1 hs3 hgs hgt X3 hfe
  go_wp2_with fail
  refine C4.out.mono ?_
  rintro e w5 ⟨all, sv, rfl, l5, s5, k5, f5⟩
  have hs5 := k5.size
  have k5' : Only (fun i => i = gs) w3 w5 := k5.mono (fun i _ h => by
    rcases h with h | h
    · exact h
    · cases h)
  have T5 := HT3.out.only k5' (fun i hi e => by
    rcases hi with hi | hi
    · omega
    · cases hi)
  have HB5 := Lib.hid (HB3.out.trans (k5'.below (by omega) (fun i hi h => by omega)))
  have hall := l5.told (g := gs) (by omega)
  have SA := Lib.hid s5
  have LA := Lib.hid hall
  have I0 : Hid (FedInv w5 w.heap.size gt 100 (bs.take 0) (.slice none 0 0) w5) :=
    ⟨.slice none 0 0, [], [], false, by rw [List.take_zero]; exact cut_nil _, T5, (fun i hi => by cases hi), LsAt.nil _ _, Only.refl _ _⟩
  have hg5 : gt < w5.heap.size := by omega
  have sepS : Hid (∀ i, Foot gs sv i → i ≠ gt) := fun i hi => by
    rcases hi with hi | hi
    · omega
    · rcases f5 i hi with h | h
      · cases h
      · omega
  obtain ⟨Aa, na, ca, rfl⟩ : ∃ A n c, all = .slice A n c := by
    obtain ⟨A, c, e⟩ := l5.form
    exact ⟨A, _, c, e⟩
  clear l5 s5 k5 f5 k5' T5 hall C4 HS3 HT3 HB3
  go_wp2_with fail
  go_loopw [6, 7] (fun ov i wr => ∃ j : Nat, j ≤ bs.length ∧ i = .int .i64 j ∧ Hid (FedInv w5 w.heap.size gt 100 (bs.take j) ov wr)) (fun _ i _ => bs.length - (intOf i).toNat)
  case atStart => exact ⟨0, Nat.zero_le _, rfl, I0⟩
  case round =>
    obtain ⟨j, hj, rfl, hrel⟩ := hrel
    clear I0
    by_cases hlt : j < bs.length
    · obtain ⟨tv, xs, held, dead, hc, hS, ht, hL, hk⟩ := hrel.out
      have hsr := hk.size
      have hlen := cut_len 100 _ (bs.take j) (Nat.le_refl _)
      rw [hc, List.length_take] at hlen
      simp only at hlen
      have kall : Only (fun i => w.heap.size ≤ i) w wr := (Only.of_below HB5.out).trans hk (fun i hi e => by omega)
      have Xr := HX.out.only kall (Nat.le_refl _) (fun i _ hi h => by omega)
      obtain ⟨D, hD⟩ : ∃ D, D = if c = j then A else A.map (·.add j) := ⟨_, rfl⟩
      have hnc : ¬ c = j := by omega
      rw [if_neg hnc] at hD
      have Xp := sl_piece (i := j) (j := j + 1) (D := D) Xr (by omega) (by omega) (by rw [if_neg hnc]; exact hD)
      have hone : (bs.take (j + 1)).drop j = [bs[j]] := by
        rw [List.take_succ_eq_append_getElem hlt, List.drop_left' (by rw [List.length_take]; omega)]
      have h11 : j + 1 - j = 1 := by omega
      have hT : bs.take (j + 1) = bs.take j ++ [bs[j]] := List.take_succ_eq_append_getElem hlt
      obtain ⟨b, hb⟩ : ∃ b, b = bs[j] := ⟨_, rfl⟩
      rw [← hb] at hone hT
      rw [hone, h11] at Xp
      have CF := Lib.hid (feed_any w.heap.size gt tv _ held [b] dead 100 _ _ wr hS Xp (by omega) (by simp; omega))
      have hfl := feedS_len 100 held [b] dead
      have HST := Lib.hid (fun v w2 (hF : FeedStep 47 wr w.heap.size gt tv (feedS 100 held dead [b]) (.returned v) w2) => FedInv.step (v := v) (w2 := w2) (b := [b]) hc ht hL hk hg5 hF)
      rw [← hT] at HST
      have hfl2 : (feedS 100 held dead [b]).1.length ≤ 1000 := by simp at hfl; omega
      have i0' : (0 : Int) ≤ (j : Int) := by omega
      have i1 : (j : Int) < (bs.length : Int) := by omega
      have hxl : xs.length ≤ 1000 := by omega
      obtain ⟨r, hr⟩ : ∃ r, r = feedS 100 held dead [b] := ⟨_, rfl⟩
      rw [← hr] at CF HST hfl2
      subst hD
      clear hc hS ht hL hk kall Xr Xp hone hT hrel hlen hfl hr h11 hb
      go_wp2_with fail
      refine CF.out.mono ?_
      intro e w2 hF
      obtain ⟨v, _, rfl, _⟩ := id hF
      obtain ⟨us, news, q1, q2, q3, q4, q5, q6⟩ := HST.out v w2 hF
      have Q1 := Lib.hid q1
      have Q2 := Lib.hid q2
      have Q3 := Lib.hid q3
      have Q6 := Lib.hid q6
      clear q1 q2 q3 q6 hF CF HST
      go_wp2_with (at_builtin; go_must (refine wpList_append_vals _ rfl (.tmp 24) (.tmp 31) 31 rfl 0 22 i0 _ 24 Try.underlying31 hi0 hz0 hz1 hz2 rfl _ us news rfl Q1.out _ rfl Q2.out Q3.out (by rw [List.length_append]; omega) (by rw [List.length_append]; simp only [maxLen]; omega) (by omega) ?_))
      intro ov' w3' h1 h2 h3
      have R := Lib.hid (Q6.out ov' w3' (by rw [List.length_append, q4, q5]; simpa using h1) h2 h3)
      clear h1 h2 h3 Q1 Q2 Q3 Q6
      go_wp2
      go_roundw
      case rel => exact ⟨j + 1, by omega, by go_num, R⟩
      case measure => simp [intOf]; omega
    · obtain ⟨tv, xs, held, dead, hc, hS, ht, hL, hk⟩ := hrel.out
      rw [List.take_of_length_le (by omega)] at hc
      have sA := SA.out.only hk sepS.out
      have lA := LA.out.only hk (fun i _ hE e => by omega)
      rw [hc] at sA lA
      simp only at sA lA
      have kq : ∀ q, Only (fun _ => False) wr (wr.drewN q) := fun q => (Only.refl _ wr).drewN q
      have hxl : xs.length ≤ 1000000 := by
        have hlen := cut_len 100 _ bs (Nat.le_refl _)
        rw [hc] at hlen
        simp only at hlen
        omega
      have CT := Lib.hid (texts_any _ _ _ _ xs xs wr lA hL hxl)
      rw [decide_eq_true (rfl : xs = xs)] at CT
      have D1 : Hid (∀ q, Calls Try.prog 13 #[.pointer (some ⟨gs, 0, none⟩)] (wr.drewN q) fun e w' => e = .returned (.bool dead) ∧ wr.drewN q = w') := fun q => dead_any _ _ _ _ _ _ (sA.only (kq q) (fun _ _ h => h))
      have D2 : Hid (∀ q, Calls Try.prog 13 #[.pointer (some ⟨gt, 0, none⟩)] (wr.drewN q) fun e w' => e = .returned (.bool dead) ∧ wr.drewN q = w') := fun q => dead_any _ _ _ _ _ _ (hS.only (kq q) (fun _ _ h => h))
      have H1 : Hid (∀ q, Calls Try.prog 14 #[.pointer (some ⟨gs, 0, none⟩)] (wr.drewN q) fun e w' => e = .returned (.int .i64 (held.length : Int)) ∧ wr.drewN q = w') := fun q => held_any _ _ _ _ _ _ (sA.only (kq q) (fun _ _ h => h))
      have H2 : Hid (∀ q, Calls Try.prog 14 #[.pointer (some ⟨gt, 0, none⟩)] (wr.drewN q) fun e w' => e = .returned (.int .i64 (held.length : Int)) ∧ wr.drewN q = w') := fun q => held_any _ _ _ _ _ _ (hS.only (kq q) (fun _ _ h => h))
      have BB : Hid (∀ q, Below w.heap.size w (wr.drewN q)) := fun q => HB5.out.trans ((hk.trans (kq q) (fun _ _ h => h.elim)).below (by omega) (fun i hi h => by omega))
      clear hc hS ht hL hk sA lA kq hrel SA LA HB5 sepS hxl
      go_wp2_with fail
      refine CT.out.mono ?_
      rintro e w6 ⟨rfl, q, rfl⟩
      clear CT
      go_wp2_with (first | (go_at_call 13; refine (D1.out _).mono ?_; rintro e w' ⟨rfl, rfl⟩) | (go_at_call 13; refine (D2.out _).mono ?_; rintro e w' ⟨rfl, rfl⟩) | (go_at_call 14; refine (H1.out _).mono ?_; rintro e w' ⟨rfl, rfl⟩) | (go_at_call 14; refine (H2.out _).mono ?_; rintro e w' ⟨rfl, rfl⟩) | fail)
      go_ret
      exact ⟨rfl, BB.out _⟩

set_option maxHeartbeats 400000 in
theorem each_big (A : Option Addr) (n c : Nat) (w : World) (h : 300 < n) :
    Calls Try.prog 6 #[.slice A n c] w fun e w' => e = .returned (.bool true) ∧ Below w.heap.size w w' := by
  have hd : decide ((300 : Int) < (n : Int)) = true := decide_eq_true (by omega)
  go_enter Try.func6, Try.ntmps6
  go_wp2_with fail
  refine (known6 w).mono ?_
  rintro e w1 ⟨rfl, k1⟩
  have K1 := Lib.hid k1
  clear k1 h
  go_wp2
  go_ret
  exact ⟨rfl, K1.out⟩
end Go.Proofs.Ytfldgoggaadohaa
