/-
  Layer 9's own 'known': places taken, one free again; maps that were made behind w.
-/
import Derived.Test.YtaenobgpbphlfaaDoorMapI
import Derived.Test.YtaenobgpbphlfaaDoorNumA
namespace Go.Proofs.YtaenobgpbphlfaaDoor
open Go.RowKit Go.Lib
set_option maxRecDepth 100000

/-- A map that was made behind w. -/
structure Lm (w : World) (g gw cw : Nat) (L : List Bool) (wr : World) : Prop where
  mp : Mp wr g gw cw L
  low : Below w.heap.size w wr
  hg : w.heap.size ≤ g
  hw : w.heap.size ≤ gw
section
variable {w wr w' : World} {g gw cw : Nat} {L L' : List Bool} {ws : List Nat} {v : Value}
theorem Lm.born (h : Born wr L ws v w') (k : Below w.heap.size w wr) : ∃ g gw cw, v = .pointer (some ⟨g, 0, none⟩) ∧ Lm w g gw cw L w' ∧ wr.heap.size ≤ g ∧ wr.heap.size ≤ gw ∧ Below wr.heap.size wr w' := by
  obtain ⟨g, gw, cw, rfl, m, hg, hw, b⟩ := h
  have := k.size
  exact ⟨g, gw, cw, rfl, ⟨⟨ws, m⟩, k.trans (b.mono this), by omega, by omega⟩, hg, hw, b⟩
theorem Lm.step (h : Lm w g gw cw L wr) (k : MpStep wr g gw cw L' w') : Lm w g gw cw L' w' := by
  have := h.low.size
  exact ⟨k.1, h.low.trans (k.2.below this (fun i hi e => by have := h.hw; omega)), h.hg, h.hw⟩
theorem Lm.below (h : Lm w g gw cw L wr) (k : Below wr.heap.size wr w') : Lm w g gw cw L w' := by
  obtain ⟨l1, l2, _⟩ := h.mp.lt
  exact ⟨h.mp.only (Only.of_below k) (Nat.not_le_of_lt l1) (Nat.not_le_of_lt l2), h.low.trans (k.mono h.low.size), h.hg, h.hw⟩
theorem Lm.calm (h : Lm w g gw cw L wr) (k : Calm wr w') : Lm w g gw cw L w' := h.below (k.below (Nat.le_refl _) (fun _ _ h => h))
theorem Lm.tz (h : Lm w g gw cw L wr) (hT : Tz w) : Tz wr := hT.only (Only.of_below h.low) (Nat.not_le_of_lt hT.lt)
theorem Tz.below (hT : Tz w) (k : Below w.heap.size w wr) : Tz wr := hT.only (Only.of_below k) (Nat.not_le_of_lt hT.lt)
end

/-! ### runs that are known -/
instance (L : List Bool) (n b : Nat) : Decidable (Fits L n b) := by unfold Fits; infer_instance
section
variable {w wr : World} {g gw cw : Nat} {L : List Bool}
theorem lm_run (h : Lm w g gw cw L wr) (hT : Tz w) (n a : Nat) (h1 : 1 ≤ n) (h2 : n ≤ 9223372036854775807) (hr : RunIs L n a) :
    Calls Tryd.prog 11 #[.pointer (some ⟨g, 0, none⟩), .int .i64 (n : Int)] wr fun e w' => e = .returned (.tuple #[.int .i64 (a : Int), .int .i64 0]) ∧ Lm w g gw cw (putL L a true n) w' :=
  (run_any g gw cw L wr h.mp (h.tz hT) n h1 h2).mono fun e w' hh => by
    rcases hh with ⟨b, hb, rfl, hs⟩ | ⟨hn, _, _⟩
    · obtain rfl := hb.uniq hr
      exact ⟨rfl, h.step hs⟩
    · exact absurd hr.fits (hn a)
theorem lm_take (h : Lm w g gw cw L wr) (hT : Tz w) (a : Nat) (hr : RunIs L 1 a) :
    Calls Tryd.prog 8 #[.pointer (some ⟨g, 0, none⟩)] wr fun e w' => e = .returned (.tuple #[.int .i64 (a : Int), .int .i64 0]) ∧ Lm w g gw cw (L.set a true) w' :=
  (take9_any g gw cw L wr h.mp (h.tz hT)).mono fun e w' hh => by
    rcases hh with ⟨b, hb, rfl, hs⟩ | ⟨hn, _, _⟩
    · obtain rfl := hb.uniq hr
      exact ⟨rfl, h.step hs⟩
    · exact absurd hr.fits (hn a)
theorem lm_runno (h : Lm w g gw cw L wr) (hT : Tz w) (n : Nat) (h1 : 1 ≤ n) (h2 : n ≤ 9223372036854775807) (hr : RunNone L n) :
    Calls Tryd.prog 11 #[.pointer (some ⟨g, 0, none⟩), .int .i64 (n : Int)] wr fun e w' => e = .returned (.tuple #[.int .i64 0, .int .i64 14]) ∧ Lm w g gw cw L w' :=
  (run_any g gw cw L wr h.mp (h.tz hT) n h1 h2).mono fun e w' hh => by
    rcases hh with ⟨b, hb, _, _⟩ | ⟨_, rfl, hs⟩
    · exact absurd hb.fits (hr b)
    · exact ⟨rfl, h.step hs⟩
theorem lm_takeno (h : Lm w g gw cw L wr) (hT : Tz w) (hr : RunNone L 1) :
    Calls Tryd.prog 8 #[.pointer (some ⟨g, 0, none⟩)] wr fun e w' => e = .returned (.tuple #[.int .i64 0, .int .i64 14]) ∧ Lm w g gw cw L w' :=
  (take9_any g gw cw L wr h.mp (h.tz hT)).mono fun e w' hh => by
    rcases hh with ⟨b, hb, _, _⟩ | ⟨_, rfl, hs⟩
    · exact absurd hb.fits (hr b)
    · exact ⟨rfl, h.step hs⟩
theorem lm_clear (h : Lm w g gw cw L wr) (i : Int) : Calls Tryd.prog 13 #[.pointer (some ⟨g, 0, none⟩), .int .i64 i] wr fun e w' => e = .returned (.bool (hasB L i)) ∧ Lm w g gw cw (markL L i false) w' :=
  (clear_any g gw cw L wr h.mp i).mono fun _ _ hh => ⟨hh.1, h.step hh.2⟩
end

def k9a : List Bool := [false, false, false, false, false, false, false, false, false, false]
def k9b : List Bool := [true, false, false, false, false, false, false, false, false, false]
def k9c : List Bool := [true, true, true, true, false, false, false, false, false, false]
def k9d : List Bool := [false, true, true, true, false, false, false, false, false, false]
def k9e : List Bool := [false, true, true, true, true, true, false, false, false, false]
set_option maxHeartbeats 4000000 in
theorem known9_any (w : World) (hT : Tz w) : Calls Tryd.prog 6 #[] w fun e w' => e = .returned (.bool true) ∧ Below w.heap.size w w' := by
  have C1 := Lib.hid (new_yes 10 (by decide) (by decide) w)
  have C2 : Hid (∀ g gw cw wr, Lm w g gw cw k9a wr → Calls Tryd.prog 8 #[.pointer (some ⟨g, 0, none⟩)] wr fun e w' => e = .returned (.tuple #[.int .i64 0, .int .i64 0]) ∧ Lm w g gw cw k9b w') := Lib.hid (fun g gw cw wr h => lm_take h hT 0 ⟨by decide, by decide⟩)
  have C3 : Hid (∀ g gw cw wr, Lm w g gw cw k9b wr → Calls Tryd.prog 11 #[.pointer (some ⟨g, 0, none⟩), .int .i64 3] wr fun e w' => e = .returned (.tuple #[.int .i64 1, .int .i64 0]) ∧ Lm w g gw cw k9c w') := Lib.hid (fun g gw cw wr h => lm_run h hT 3 1 (by decide) (by decide) ⟨by decide, by decide⟩)
  have C4 : Hid (∀ g gw cw wr, Lm w g gw cw k9c wr → Calls Tryd.prog 13 #[.pointer (some ⟨g, 0, none⟩), .int .i64 0] wr fun e w' => e = .returned (.bool true) ∧ Lm w g gw cw k9d w') := Lib.hid (fun g gw cw wr h => lm_clear h 0)
  have C5 : Hid (∀ g gw cw wr, Lm w g gw cw k9d wr → Calls Tryd.prog 11 #[.pointer (some ⟨g, 0, none⟩), .int .i64 2] wr fun e w' => e = .returned (.tuple #[.int .i64 4, .int .i64 0]) ∧ Lm w g gw cw k9e w') := Lib.hid (fun g gw cw wr h => lm_run h hT 2 4 (by decide) (by decide) ⟨by decide, by decide⟩)
  have C6 : Hid (∀ W, Calls Tryd.prog 7 #[.int .i64 0] W fun e w' => e = .returned (.tuple #[.pointer none, .int .i64 1]) ∧ W = w') := Lib.hid (fun W => new_no 0 (by decide) W)
  have C7 : Hid (∀ g gw cw wr, Lm w g gw cw k9e wr → Calls Tryd.prog 16 #[.pointer (some ⟨g, 0, none⟩)] wr fun e w' => ∃ v bs, e = .returned v ∧ Tells9 k9e bs ∧ w'.ownsRow wr.heap.size 5 1 v bs.length (b8s bs) ∧ Lm w g gw cw k9e w') := Lib.hid (fun g gw cw wr h => (bytes_any9 g gw cw k9e wr h.mp).mono fun e w' hh => by
    obtain ⟨v, rfl, bs, h1, h2, h3⟩ := hh
    exact ⟨v, bs, rfl, h1, h2, h.calm h3⟩)
  have C8 : Hid (∀ g gw cw wr W v bs, Lm w g gw cw k9e wr → Tells9 k9e bs → wr.ownsRow W 5 1 v bs.length (b8s bs) → Calls Tryd.prog 15 #[v, .int .i64 10] wr fun e w' => ∃ g2 gw2 cw2, e = .returned (.tuple #[.pointer (some ⟨g2, 0, none⟩), .int .i64 0]) ∧ Lm w g gw cw k9e w' ∧ Lm w g2 gw2 cw2 k9e w') := Lib.hid (fun g gw cw wr W v bs h t o => by
    have hm := t.may (by decide)
    refine (load_yes W wr.heap.size v bs wr (owns_SlIs o) 10 (by decide) (by decide) hm.1).mono fun e w' hh => ?_
    obtain ⟨u, ws, rfl, hb⟩ := hh
    obtain ⟨g2, gw2, cw2, rfl, l2, _, _, b2⟩ := Lm.born hb h.low
    have e2 : marksOf bs 10 = k9e := hm.2
    rw [e2] at l2
    exact ⟨g2, gw2, cw2, rfl, h.below b2, l2⟩)
  have C9 : Hid (∀ g gw cw wr, Lm w g gw cw k9e wr → Calls Tryd.prog 17 #[.pointer (some ⟨g, 0, none⟩), .int .i64 5] wr fun e w' => e = .returned (.bool true) ∧ wr = w') := Lib.hid (fun g gw cw wr h => has_any g gw cw k9e 5 wr h.mp)
  have CA : Hid (∀ g gw cw wr, Lm w g gw cw k9e wr → Calls Tryd.prog 17 #[.pointer (some ⟨g, 0, none⟩), .int .i64 0] wr fun e w' => e = .returned (.bool false) ∧ wr = w') := Lib.hid (fun g gw cw wr h => has_any g gw cw k9e 0 wr h.mp)
  have CB : Hid (∀ g gw cw wr, Lm w g gw cw k9e wr → Calls Tryd.prog 18 #[.pointer (some ⟨g, 0, none⟩)] wr fun e w' => e = .returned (.int .i64 5) ∧ wr = w') := Lib.hid (fun g gw cw wr h => free_any9 g gw cw k9e wr h.mp)
  have CC : Hid (∀ g gw cw wr, Lm w g gw cw k9e wr → Calls Tryd.prog 16 #[.pointer (some ⟨g, 0, none⟩)] wr fun e w' => ∃ A c, e = .returned (.slice A 2 c) ∧ Below w.heap.size w w') := Lib.hid (fun g gw cw wr h => (C7.out g gw cw wr h).mono fun e w' hh => by
    obtain ⟨v, bs, rfl, t, o, l⟩ := hh
    obtain ⟨A, c, rfl, _⟩ := owns_SlIs o
    exact ⟨A, c, by rw [t.len]; rfl, l.low⟩)
  have S0 : Hid (∀ v w1, Born w (List.replicate 10 false) (List.replicate ((10 + 63) / 64) 0) v w1 → ∃ g gw cw, v = .pointer (some ⟨g, 0, none⟩) ∧ Lm w g gw cw k9a w1) := Lib.hid (fun v w1 b => by
    obtain ⟨g, gw, cw, rfl, l, _⟩ := Lm.born b (Below.refl _ _)
    exact ⟨g, gw, cw, rfl, l⟩)
  clear hT
  go_enter Tryd.func6, Tryd.ntmps6
  go_wp2_with fail
  refine C1.out.mono ?_
  rintro e w1 ⟨v, rfl, b1⟩
  obtain ⟨g, gw, cw, rfl, l1⟩ := S0.out v w1 b1
  have D2 := Lib.hid (C2.out g gw cw w1 l1)
  clear b1 l1 C1 C2 S0
  go_wp2_with fail
  refine D2.out.mono ?_
  rintro e w2 ⟨rfl, l2⟩
  have D3 := Lib.hid (C3.out g gw cw w2 l2)
  clear l2 C3 D2
  go_wp2_with fail
  refine D3.out.mono ?_
  rintro e w3 ⟨rfl, l3⟩
  have D4 := Lib.hid (C4.out g gw cw w3 l3)
  clear l3 C4 D3
  go_wp2_with fail
  refine D4.out.mono ?_
  rintro e w4 ⟨rfl, l4⟩
  have D5 := Lib.hid (C5.out g gw cw w4 l4)
  clear l4 C5 D4
  go_wp2_with fail
  refine D5.out.mono ?_
  rintro e w5 ⟨rfl, l5⟩
  have D6 := Lib.hid (C6.out w5)
  have D7 := Lib.hid (C7.out g gw cw w5 l5)
  clear l5 C6 C7 D5
  go_wp2_with fail
  refine D6.out.mono ?_
  rintro e w' ⟨rfl, rfl⟩
  clear D6
  go_wp2_with fail
  refine D7.out.mono ?_
  rintro e w6 ⟨vb, bs, rfl, t6, o6, l6⟩
  have D8 := Lib.hid (C8.out g gw cw w6 _ vb bs l6 t6 o6)
  clear t6 o6 l6 C8 D7
  go_wp2_with fail
  refine D8.out.mono ?_
  rintro e w7 ⟨g2, gw2, cw2, rfl, l7, m7⟩
  have D9 := Lib.hid (C9.out g gw cw w7 l7)
  have DA := Lib.hid (CA.out g gw cw w7 l7)
  have DB := Lib.hid (CB.out g gw cw w7 l7)
  have DB2 := Lib.hid (CB.out g2 gw2 cw2 w7 m7)
  have DC := Lib.hid (CC.out g gw cw w7 l7)
  clear l7 m7 C9 CA CB CC D8
  go_wp2_with fail
  refine D9.out.mono ?_
  rintro e w' ⟨rfl, rfl⟩
  clear D9
  go_wp2_with fail
  refine DA.out.mono ?_
  rintro e w' ⟨rfl, rfl⟩
  clear DA
  go_wp2_with fail
  refine DB.out.mono ?_
  rintro e w' ⟨rfl, rfl⟩
  clear DB
  go_wp2_with fail
  refine DB2.out.mono ?_
  rintro e w' ⟨rfl, rfl⟩
  clear DB2
  go_wp2_with fail
  refine DC.out.mono ?_
  rintro e w8 ⟨A, c, rfl, b8⟩
  have R := Lib.hid b8
  clear b8 DC
  go_wp2
  go_ret
  exact ⟨rfl, R.out⟩
end Go.Proofs.YtaenobgpbphlfaaDoor
