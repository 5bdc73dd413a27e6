/-
  FrameBytes: any bytes, in any pieces, whatever size is agreed; the walk.
-/
import Derived.Test.YtfldgoggaadohaaLaw6Each
import Derived.Test.YtfldgoggaadohaaRefFrame
import Derived.Test.YtfldgoggaadohaaOpenFrame
import Derived.Deep.DeepCutAuto
import Derived.Deep.Cut
namespace Go.Proofs.Ytfldgoggaadohaa
open Go.RowKit
set_option maxRecDepth 100000

/-- Both streams stand alike, and apart. -/
structure BInv (w : World) (gm a g : Nat) (hv mv : Value) (held : List UInt8) (dead : Bool) (wr : World) : Prop where
  s : StAt 47 wr w.heap.size g hv held dead
  r : StAt 29 wr w.heap.size gm mv held dead
  apart : ∀ i, Foot g hv i → ¬ Foot gm mv i
  few : held.length ≤ a
  low : Below w.heap.size w wr

section
variable {w wr w2 w3 w4 : World} {gm a g g' n : Nat} {hv mv hv' x y v : Value} {held bs b : List UInt8} {dead : Bool} {m : Int}
/-- A twin takes the stream's place; the stream goes its own way. -/
theorem BInv.twin (I : BInv w gm a g hv mv held dead wr) (t : StAt 47 w2 wr.heap.size g' hv' held dead) (k2 : Below wr.heap.size wr w2) {r : List (List UInt8) × List UInt8 × Bool} {o : Obj} (hF : FeedStep 47 (w2.alloc o) w.heap.size g hv r (.returned v) w3) : BInv w gm a g' hv' mv held dead w3 := by
  obtain ⟨_, hv3, _, _, _, k3, _⟩ := hF
  have hs := I.low.size
  have hs2 := k2.size
  have q2 := Only.of_below k2
  have kA : Only (fun _ => False) w2 (w2.alloc o) := (Only.refl _ w2).alloc o
  have hsz : (w2.alloc o).heap.size = w2.heap.size + 1 := by simp
  have fl : ∀ i, Foot g hv i → i < wr.heap.size := fun i hi => (I.s.foot_lt hi).2
  have k : Only (fun i => wr.heap.size ≤ i ∨ Foot g hv i) wr w3 := ((q2.mono (T := fun i => wr.heap.size ≤ i ∨ Foot g hv i) (fun _ _ h => .inl h)).trans kA (fun _ _ h => h.elim)).trans k3 (fun i _ h => .inr h)
  refine ⟨((t.only kA (fun _ _ h => h)).only k3 (fun i hi h => by have := (t.foot_lt hi).1; have := fl i h; omega)).base hs, I.r.only k (fun i hi h => ?_), fun i hi h => ?_, I.few, I.low.trans (k.below hs (fun i hi h => ?_))⟩
  · rcases h with h | h
    · have := (I.r.foot_lt hi).2
      omega
    · exact I.apart i h hi
  · have := (t.foot_lt hi).1
    have := (I.r.foot_lt h).2
    omega
  · rcases h with h | h
    · omega
    · have := (I.s.foot_lt h).1
      omega
/-- Both are fed the same. -/
theorem BInv.fed (I : BInv w gm a g hv mv held dead wr) (h1 : FeedStep 47 wr w.heap.size g hv (feedS m held dead b) (.returned x) w2) (h2 : FeedStep 29 w2 w.heap.size gm mv (feedS m held dead b) (.returned y) w3) (hb : b.length = n) :
    ∃ hv' mv', BInv w gm (a + n) g hv' mv' (feedS m held dead b).2.1 (feedS m held dead b).2.2 w3 ∧ LsAt w3 (fun _ => True) x (feedS m held dead b).1 ∧ LsAt w3 (fun _ => True) y (feedS m held dead b).1 := by
  obtain ⟨_, hv', e1, l1, s1, k1, f1⟩ := h1
  injection e1 with e1
  subst e1
  obtain ⟨_, mv', e2, l2, s2, k2, f2⟩ := h2
  injection e2 with e2
  subst e2
  have hs := I.low.size
  have hs1 := k1.size
  have hs2 := k2.size
  have fm : ∀ i, Foot gm mv i → i < wr.heap.size ∧ w.heap.size ≤ i := fun i hi => ⟨(I.r.foot_lt hi).2, (I.r.foot_lt hi).1⟩
  have ff : ∀ i, Foot g hv i → i < wr.heap.size ∧ w.heap.size ≤ i := fun i hi => ⟨(I.s.foot_lt hi).2, (I.s.foot_lt hi).1⟩
  have f1' : ∀ i, Foot g hv' i → Foot g hv i ∨ wr.heap.size ≤ i := fun i hi => by
    rcases hi with hi | hi
    · exact .inl (.inl hi)
    · rcases f1 i hi with h | h
      · exact .inl (.inr h)
      · exact .inr h
  have ap1 : ∀ i, Foot g hv' i → ¬ Foot gm mv i := fun i hi h => by
    rcases f1' i hi with hi | hi
    · exact I.apart i hi h
    · have := (fm i h).1
      omega
  have hfl := feedS_len m held b dead
  refine ⟨hv', mv', ⟨s1.only k2 ap1, s2, fun i hi h => ?_, by have := I.few; omega, ?_⟩, ?_, l2.mono (fun _ _ _ => trivial)⟩
  · rcases h with h | h
    · exact ap1 i hi (.inl h)
    · rcases f2 i h with h | h
      · exact ap1 i hi (.inr h)
      · have := (s1.foot_lt hi).2
        omega
  · exact (I.low.trans (k1.below hs (fun i hi h => by have := ff i h; omega))).trans (k2.below (by omega) (fun i hi h => by have := fm i h; omega))
  · exact (l1.only k2 (fun i _ hE h => by have := fm i h; omega)).mono (fun _ _ _ => trivial)
end

set_option maxHeartbeats 8000000 in
theorem bytes6_walk (A : Option Addr) (c : Nat) (bs : List UInt8) (A1 : Option Addr) (c1 : Nat) (cs : List UInt8) (A2 : Option Addr) (c2 : Nat) (ms : List Nat) (w : World)
    (hx : SlIs w 0 w.heap.size (.slice A bs.length c) bs) (hc : SlIs w 0 w.heap.size (.slice A1 cs.length c1) cs) (hm : NsAt w w.heap.size A2 ms) (hl : bs.length ≤ 2000) (hlc : cs.length ≤ 40) :
    Calls Try.prog 3 #[.slice A bs.length c, .slice A1 cs.length c1, .slice A2 ms.length c2] w fun e w' => e = .returned (.bool true) ∧ Below w.heap.size w w' := by
  have hd1 : decide ((2000 : Int) < (bs.length : Int)) = false := decide_eq_false (by omega)
  have hd2 : decide ((40 : Int) < (cs.length : Int)) = false := decide_eq_false (by omega)
  have hcl : bs.length ≤ c ∧ c ≤ maxLen := by
    obtain ⟨A', c', e, h1, h2, _⟩ := hx
    injection e with _ _ e2
    subst e2
    exact ⟨h1, h2⟩
  obtain ⟨hc1, hc2⟩ := hcl
  simp only [maxLen] at hc2
  have HX := Lib.hid hx
  have HC := Lib.hid hc
  have HM := Lib.hid hm
  clear hx hc hm
  go_enter Try.func3, Try.ntmps3
  go_wp2_with fail
  refine (known6 w).mono ?_
  rintro e w1 ⟨rfl, b1⟩
  have B1 := Lib.hid b1
  have hs1 := b1.size
  clear b1
  go_wp2_with fail
  refine (new_any w1).mono ?_
  rintro e w2 ⟨rfl, rfl⟩
  have I0 : Hid (BInv w (w1.heap.size + 1) 0 w1.heap.size (.slice none 0 0) (.slice none 0 0) [] false ((w1.alloc (.cells #[.slice none 0 0, .bool false] 47)).alloc (.cells #[.slice none 0 0, .bool false] 29))) := by
    have S2 := StAt.new (t := 47) w1 w.heap.size hs1
    have T3 := StAt.new (t := 29) (w1.alloc (.cells #[.slice none 0 0, .bool false] 47)) w.heap.size (by simp; omega)
    have S3 := S2.only ((Only.refl (fun _ => False) _).alloc (.cells #[.slice none 0 0, .bool false] 29)) (fun _ _ h => h)
    have B3 := (B1.out.alloc hs1 (.cells #[.slice none 0 0, .bool false] 47)).alloc (by simp; omega) (.cells #[.slice none 0 0, .bool false] 29)
    have e2 : (w1.alloc (.cells #[.slice none 0 0, .bool false] 47)).heap.size = w1.heap.size + 1 := by simp
    rw [e2] at T3
    refine ⟨S3, T3, fun i hi h => ?_, by simp, B3⟩
    rcases hi with hi | hi
    · rcases h with h | h
      · omega
      · cases h
    · cases hi
  obtain ⟨gm, hgm⟩ : ∃ gm, gm = w1.heap.size + 1 := ⟨_, rfl⟩
  obtain ⟨w3, hw3⟩ : ∃ w3, w3 = (w1.alloc (.cells #[.slice none 0 0, .bool false] 47)).alloc (.cells #[.slice none 0 0, .bool false] 29) := ⟨_, rfl⟩
  go_wp2_with fail
  rw [← hw3] at I0 ⊢
  rw [← hgm] at I0 ⊢
  clear hw3 B1 hgm
  go_loopw [7, 9, 10] (fun s at' i wr => ∃ g a j : Nat, ∃ hv mv held dead, s = .pointer (some ⟨g, 0, none⟩) ∧ at' = .int .i64 a ∧ i = .int .i64 j ∧ a ≤ bs.length ∧ j ≤ cs.length + 1 ∧ (cs.length < j → a = bs.length) ∧ Hid (BInv w gm a g hv mv held dead wr)) (fun _ _ i _ => cs.length + 1 - (intOf i).toNat)
  case atStart => exact ⟨_, 0, 0, _, _, _, _, rfl, rfl, rfl, Nat.zero_le _, Nat.zero_le _, fun h => by omega, I0⟩
  case round =>
    obtain ⟨g, a, j, hv, mv, held, dead, rfl, rfl, rfl, ha, hj, hje, hrel⟩ := hrel
    clear I0
    by_cases hgo : a < bs.length ∨ j < cs.length
    · have hjc : j ≤ cs.length := by omega
      go_upto_region 9 with fail
      go_cut [38] (fun s wx => s = .bool true ∧ wx = wr)
      case first =>
        by_cases h1 : a < bs.length
        · have d1 : (a : Int) < (bs.length : Int) := by omega
          clear hgo hrel
          go_wp2_with fail
          go_meet
          exact ⟨rfl, rfl⟩
        · have d1 : ¬ ((a : Int) < (bs.length : Int)) := by omega
          have d2 : (j : Int) < (cs.length : Int) := by omega
          clear hgo hrel
          go_wp2_with fail
          go_meet
          exact ⟨rfl, rfl⟩
      case rest =>
        obtain ⟨rfl, rfl⟩ := hcut
        obtain ⟨P, hP⟩ : ∃ P : Bool, P = decide (∃ h : j < cs.length, (cs[j]'h).toNat < bs.length - a) := ⟨_, rfl⟩
        obtain ⟨N, hN⟩ : ∃ N : Nat, N = if h : j < cs.length then min (cs[j]'h).toNat (bs.length - a) else bs.length - a := ⟨_, rfl⟩
        obtain ⟨K, hK⟩ : ∃ K : Nat, K = if h : j < ms.length then ms[j]'h else 8192 := ⟨_, rfl⟩
        have hsw := hrel.out.low.size
        have kw : Only (fun i => w.heap.size ≤ i) w wc := Only.of_below hrel.out.low
        have hcut1 : Hid (∀ h : j < cs.length, ∃ ad, A1 = some ad ∧ wc.cell? (ad.add j) = some (.int .u8 ((cs[j]'h).toNat : Int))) := fun h => by
          obtain ⟨A', c', e, _, _, h3⟩ := HC.out
          injection e with e1 _ _
          subst e1
          obtain ⟨ad, e, _, hb, hcell⟩ := h3.at h
          exact ⟨ad, e, (kw.cell (by rw [addr_block]; exact hb) (by rw [addr_block]; omega)).trans hcell⟩
        have hmost1 : Hid (∀ h : j < ms.length, ∃ ad, A2 = some ad ∧ (ms[j]'h) < 65536 ∧ wc.cell? (ad.add j) = some (.int .u16 ((ms[j]'h : Nat) : Int))) := fun h => by
          obtain ⟨ad, e, hb, hcell⟩ := HM.out (by omega)
          exact ⟨ad, e, (hcell j h).1, (kw.cell (by rw [addr_block]; exact hb) (by rw [addr_block]; omega)).trans (hcell j h).2⟩
        go_upto_region 12 with fail
        go_cut [57] (fun s wx => s = .bool P ∧ wx = wc)
        case first =>
          by_cases h1 : j < cs.length
          · obtain ⟨ad, rfl, hcell⟩ := hcut1.out h1
            obtain ⟨cb, hcb⟩ : ∃ cb, cb = cs[j] := ⟨_, rfl⟩
            rw [← hcb] at hcell
            have lb := cb.toNat_lt
            have hPv : Hid (P = decide ((cb.toNat : Int) < (bs.length : Int) - (a : Int))) := by
              refine Lib.hid ?_
              rw [hP, hcb]
              congr 1
              apply propext
              constructor
              · rintro ⟨_, h⟩
                omega
              · exact fun h => ⟨h1, by omega⟩
            have i0 : (0 : Int) ≤ (j : Int) := by omega
            have i1 : (j : Int) < (cs.length : Int) := by omega
            clear hP hN hK hcb hgo hrel hcut1 hmost1 kw
            go_wp2_with fail
            go_meet
            exact ⟨by rw [hPv.out], rfl⟩
          · have hPv : Hid (P = false) := by
              refine Lib.hid ?_
              rw [hP]
              exact decide_eq_false (fun ⟨h, _⟩ => h1 h)
            have i1 : ¬ ((j : Int) < (cs.length : Int)) := by omega
            clear hP hN hK hgo hrel hcut1 hmost1 kw
            go_wp2_with fail
            go_meet
            exact ⟨by rw [hPv.out], rfl⟩
        case rest =>
          obtain ⟨rfl, rfl⟩ := hcut
          go_upto_if 57 with fail
          go_cut [11] (fun s wx => s = .int .i64 (N : Int) ∧ wx = wc)
          case first =>
            by_cases h1 : ∃ h : j < cs.length, (cs[j]'h).toNat < bs.length - a
            · obtain ⟨h1, h2⟩ := h1
              obtain ⟨ad, rfl, hcell⟩ := hcut1.out h1
              obtain ⟨cb, hcb⟩ : ∃ cb, cb = cs[j] := ⟨_, rfl⟩
              rw [← hcb] at hcell h2
              have hPv : P = true := by
                rw [hP]
                exact decide_eq_true ⟨h1, by rw [← hcb]; exact h2⟩
              have hNv : Hid (N = cb.toNat) := by
                refine Lib.hid ?_
                rw [hN, dif_pos h1, ← hcb]
                omega
              subst hPv
              have lb := cb.toNat_lt
              have i0 : (0 : Int) ≤ (j : Int) := by omega
              have i1 : (j : Int) < (cs.length : Int) := by omega
              clear hP hN hK hcb hgo hrel hcut1 hmost1 kw h2
              go_wp2_with fail
              go_meet
              exact ⟨by rw [hNv.out], rfl⟩
            · have hPv : P = false := by
                rw [hP]
                exact decide_eq_false h1
              have hNv : Hid ((N : Int) = (bs.length : Int) - (a : Int)) := by
                refine Lib.hid ?_
                rw [hN]
                split
                · rename_i h
                  have : ¬ ((cs[j]'h).toNat < bs.length - a) := fun h' => h1 ⟨h, h'⟩
                  omega
                · omega
              subst hPv
              clear hP hN hK hgo hrel hcut1 hmost1 kw h1
              go_wp2_with fail
              go_meet
              exact ⟨by rw [hNv.out], rfl⟩
          case rest =>
            obtain ⟨rfl, rfl⟩ := hcut
            have hNr : N ≤ bs.length - a ∧ (cs.length ≤ j → N = bs.length - a) := by
              rw [hN]
              split
              · exact ⟨by omega, fun h => by omega⟩
              · exact ⟨by omega, fun _ => rfl⟩
            clear hN hP hcut1
            go_upto_if 66 with fail
            go_cut [12] (fun s wx => s = .int .i64 (K : Int) ∧ wx = wc)
            case first =>
              by_cases h1 : j < ms.length
              · obtain ⟨ad, rfl, hz, hcell⟩ := hmost1.out h1
                have hKv : Hid (K = ms[j]) := by
                  refine Lib.hid ?_
                  rw [hK, dif_pos h1]
                obtain ⟨z, hz'⟩ : ∃ z, z = ms[j] := ⟨_, rfl⟩
                rw [← hz'] at hcell hKv hz
                have i0 : (0 : Int) ≤ (j : Int) := by omega
                have i1 : (j : Int) < (ms.length : Int) := by omega
                clear hK hgo hrel hmost1 kw hz'
                go_wp2_with fail
                go_meet
                exact ⟨by rw [hKv.out], rfl⟩
              · have hKv : Hid (K = 8192) := by
                  refine Lib.hid ?_
                  rw [hK, dif_neg h1]
                have i1 : ¬ ((j : Int) < (ms.length : Int)) := by omega
                clear hK hgo hrel hmost1 kw
                go_wp2_with fail
                go_meet
                exact ⟨by rw [hKv.out]; rfl, rfl⟩
            case rest =>
              obtain ⟨rfl, rfl⟩ := hcut
              clear hK hmost1
              go_upto_if 74 with fail
              go_cut [7] (fun s wx => ∃ g' hv', s = .pointer (some ⟨g', 0, none⟩) ∧ Hid (BInv w gm a g' hv' mv held dead wx))
              case first =>
                by_cases h5 : j % 5 = 4
                · have h5b : ((j : Int) % 5 == 4) = true := by simp; omega
                  have hfw := hrel.out.few
                  have CT := Lib.hid (twin_any _ _ _ _ _ wc hrel.out.s (by omega))
                  clear hgo kw
                  go_wp2_with fail
                  refine CT.out.mono ?_
                  rintro e w4 ⟨g', hv', rfl, t4, b4⟩
                  have hs4 := b4.size
                  have s4 := hrel.out.s.only (Only.of_below b4) (fun i hi h => by have := (hrel.out.s.foot_lt hi).2; omega)
                  have kA : Only (fun _ => False) w4 (w4.alloc (.cells #[.int .u8 9, .int .u8 9] 5)) := (Only.refl _ w4).alloc _
                  have CF := Lib.hid (feed_any w.heap.size g hv _ held [9, 9] dead 1 _ _ _ (s4.only kA (fun _ _ h => h)) (lit_SlIs w4 5 (0, 0) [9, 9] 2 rfl (by simp [maxLen])) (by simp) (by simp; omega))
                  have HT := Lib.hid (fun v w5 (hF : FeedStep 47 (w4.alloc (.cells #[.int .u8 9, .int .u8 9] 5)) w.heap.size g hv (feedS 1 held dead [9, 9]) (.returned v) w5) => hrel.out.twin (v := v) (w3 := w5) t4 b4 hF)
                  clear CT t4 b4 s4 kA hrel
                  go_wp2_with fail
                  refine CF.out.mono ?_
                  intro e w5 hF
                  obtain ⟨v, _, rfl, _⟩ := id hF
                  have R := Lib.hid (HT.out v w5 hF)
                  clear hF CF HT
                  go_wp2_with fail
                  go_meet
                  exact ⟨g', hv', rfl, R⟩
                · have h5b : ((j : Int) % 5 == 4) = false := by simp; omega
                  clear hgo kw
                  go_wp2_with fail
                  go_meet
                  exact ⟨g, hv, rfl, hrel⟩
              case rest =>
                obtain ⟨g', hv', rfl, hI⟩ := hcut
                clear hrel kw
                have hfw := hI.out.few
                have hsw' := hI.out.low.size
                have Xr := HX.out.only (Only.of_below hI.out.low) (Nat.le_refl _) (fun i _ hi h => by omega)
                obtain ⟨D, hD⟩ : ∃ D, D = if c = a then A else A.map (·.add a) := ⟨_, rfl⟩
                have Xp := sl_piece (i := a) (j := a + N) (D := D) Xr (by omega) (by omega) hD
                have haN : a + N - a = N := by omega
                rw [haN] at Xp
                have hD' : (if c = a then A else Option.map (fun x => x.add a) A) = D := hD.symm
                have hbl : ((bs.take (a + N)).drop a).length = N := by rw [List.length_drop, List.length_take]; omega
                obtain ⟨b, hb⟩ : ∃ b, b = (bs.take (a + N)).drop a := ⟨_, rfl⟩
                rw [← hb] at Xp hbl
                have C1 := Lib.hid (feed_any w.heap.size g' hv' _ held b dead K _ _ wc hI.out.s Xp hsw' (by omega))
                have XP := Lib.hid Xp
                have j1 : (0 : Int) ≤ (a : Int) := by omega
                have j2 : a + N ≤ c := by omega
                have HD := Lib.hid hD
                clear Xr Xp haN hb hgo hD
                go_wp2_with fail
                refine C1.out.mono ?_
                intro e w4 hF1
                obtain ⟨x, _, rfl, _, _, k4, _⟩ := id hF1
                have hs4 := k4.size
                have r4 := hI.out.r.only k4 (fun i hi h => hI.out.apart i h hi)
                have X4 := XP.out.only k4 hsw' (fun i _ hi h => by have := (hI.out.s.foot_lt h).1; omega)
                have C2 := Lib.hid (reffeed_any w.heap.size gm mv _ held b dead K _ _ w4 r4 X4 (by omega) (by omega))
                have HF := Lib.hid (fun y w5 (hF2 : FeedStep 29 w4 w.heap.size gm mv (feedS K held dead b) (.returned y) w5) => hI.out.fed hF1 hF2 hbl)
                have hxf : ∃ A' n' c', x = .slice A' n' c' := by
                  obtain ⟨_, _, e, l, _⟩ := hF1
                  injection e with e
                  obtain ⟨A', c', e'⟩ := l.form
                  exact ⟨A', _, c', e.trans e'⟩
                obtain ⟨Ax, nx, cx, rfl⟩ := hxf
                have hfl := feedS_len K held b dead
                clear C1 hF1 r4 X4 k4 XP
                go_wp2_with fail
                refine C2.out.mono ?_
                intro e w5 hF2
                obtain ⟨y, _, rfl, l2, _⟩ := id hF2
                obtain ⟨hv5, mv5, I5, lx, ly⟩ := HF.out y w5 hF2
                obtain ⟨Ay, ny, cy, rfl⟩ : ∃ A' n' c', y = .slice A' n' c' := by
                  obtain ⟨A', c', e'⟩ := l2.form
                  exact ⟨A', _, c', e'⟩
                obtain ⟨r, hr⟩ : ∃ r, r = feedS K held dead b := ⟨_, rfl⟩
                rw [← hr] at I5 lx ly hfl
                obtain ⟨ys, held', dead'⟩ := r
                simp only at I5 lx ly hfl
                have kq : ∀ q, Only (fun _ => False) w5 (w5.drewN q) := fun q => (Only.refl _ w5).drewN q
                have QT : Hid (∀ q, Calls Try.prog 12 #[.slice Ax nx cx, .slice Ay ny cy] (w5.drewN q) fun e w'' => e = .returned (.bool true) ∧ ∃ p, w'' = w5.drewN p) := fun q => by
                  have qq := texts_any _ _ _ _ ys ys (w5.drewN q) (lx.only (kq q) (fun _ _ _ h => h)) (ly.only (kq q) (fun _ _ _ h => h)) (by omega)
                  rw [decide_eq_true (rfl : ys = ys)] at qq
                  exact Calls.quiet_of qq
                have QD : Hid (∀ q, Calls Try.prog 13 #[.pointer (some ⟨g', 0, none⟩)] (w5.drewN q) fun e w'' => e = .returned (.bool dead') ∧ ∃ p, w'' = w5.drewN p) := fun q =>
                  (dead_any _ _ _ _ _ _ (I5.s.only (kq q) (fun _ _ h => h))).mono fun e w' ⟨he, hw⟩ => ⟨he, q, hw.symm⟩
                have QH : Hid (∀ q, Calls Try.prog 14 #[.pointer (some ⟨g', 0, none⟩)] (w5.drewN q) fun e w'' => e = .returned (.int .i64 (held'.length : Int)) ∧ ∃ p, w'' = w5.drewN p) := fun q =>
                  (held_any _ _ _ _ _ _ (I5.s.only (kq q) (fun _ _ h => h))).mono fun e w' ⟨he, hw⟩ => ⟨he, q, hw.symm⟩
                have HI5 : Hid (∀ q, BInv w gm (a + N) g' hv5 mv5 held' dead' (w5.drewN q)) := fun q =>
                  ⟨I5.s.only (kq q) (fun _ _ h => h), I5.r.only (kq q) (fun _ _ h => h), I5.apart, I5.few, ⟨I5.low.os, I5.low.tape, I5.low.output, I5.low.size, I5.low.block⟩⟩
                obtain ⟨Am, cm, rfl, _⟩ := owns_slice I5.r.own
                have m0 := I5.r.has.cell 0
                have m1 := I5.r.has.cell 1
                simp at m0 m1
                clear hF2 C2 HF I5 lx ly l2 kq hr hI
                go_wp2
                go_quiet (first | (go_at_call 12; exact QT.out _) | (go_at_call 13; exact QD.out _) | (go_at_call 14; exact QH.out _))
                go_wp2
                go_roundw
                case rel => exact ⟨g', a + N, j + 1, hv5, _, held', dead', rfl, by go_num, by go_num, by omega, by omega, fun h => by have := hNr.2 (by omega); omega, HI5.out _⟩
                case measure => simp [intOf]; omega
    · have d1 : ¬ ((a : Int) < (bs.length : Int)) := by omega
      have d2 : ¬ ((j : Int) < (cs.length : Int)) := by omega
      have K := Lib.hid hrel.out.low
      clear hrel hgo
      go_wp2
      go_ret
      exact ⟨rfl, K.out⟩

set_option maxHeartbeats 400000 in
theorem bytes6_big (A : Option Addr) (n c : Nat) (A1 : Option Addr) (n1 c1 : Nat) (v : Value) (w : World) (h : 2000 < n ∨ 40 < n1) :
    Calls Try.prog 3 #[.slice A n c, .slice A1 n1 c1, v] w fun e w' => e = .returned (.bool true) ∧ Below w.heap.size w w' := by
  by_cases h1 : 2000 < n
  · have d1 : (2000 : Int) < (n : Int) := by omega
    go_enter Try.func3, Try.ntmps3
    go_wp2_with fail
    refine (known6 w).mono ?_
    rintro e w1 ⟨rfl, k1⟩
    have K1 := Lib.hid k1
    clear k1 h
    go_wp2
    go_ret
    exact ⟨rfl, K1.out⟩
  · have d1 : ¬ (2000 : Int) < (n : Int) := by omega
    have d2 : (40 : Int) < (n1 : Int) := by omega
    go_enter Try.func3, Try.ntmps3
    go_wp2_with fail
    refine (known6 w).mono ?_
    rintro e w1 ⟨rfl, k1⟩
    have K1 := Lib.hid k1
    clear k1 h
    go_wp2
    go_ret
    exact ⟨rfl, K1.out⟩
end Go.Proofs.Ytfldgoggaadohaa
