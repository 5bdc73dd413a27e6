/-
  Package bitmap: fill, Run, Take.
-/
import Derived.Test.YtaenobgpbphlfaaDoorMapE
namespace Go.Proofs.YtaenobgpbphlfaaDoor
open Go.RowKit Go.Lib
set_option maxRecDepth 100000

/-- Nothing that was there has turned. -/
def Calm (w w' : World) : Prop := Only (fun _ => False) w w'
theorem Calm.drewN (w : World) (n : Nat) : Calm w (w.drewN n) := (Only.refl _ w).drewN n
theorem Mp.calm {w w' : World} {g gw cw : Nat} {L : List Bool} (h : Mp w g gw cw L) (k : Calm w w') : Mp w' g gw cw L := h.only k (fun h => h) (fun h => h)
theorem Tz.calm {w w' : World} (h : Tz w) (k : Calm w w') : Tz w' := h.only k (fun h => h)
theorem Calm.trans {w w' w'' : World} (h : Calm w w') (k : Calm w' w'') : Calm w w'' := Only.trans h k (fun _ _ h => h)
theorem MpStep.calm {w w' : World} {g gw cw : Nat} {L : List Bool} (h : Mp w g gw cw L) (k : Calm w w') : MpStep w g gw cw L w' := ⟨h.calm k, Only.mono k (fun _ _ h => h.elim)⟩
theorem MpStep.after {w w' w'' : World} {g gw cw : Nat} {L : List Bool} (k : Calm w w') (h : MpStep w' g gw cw L w'') : MpStep w g gw cw L w'' := ⟨h.1, (Only.mono k (fun _ _ h => h.elim)).trans h.2 (fun _ _ h => h)⟩
theorem MpStep.then {w w' w'' : World} {g gw cw : Nat} {L L' : List Bool} (k : MpStep w g gw cw L w') (h : MpStep w' g gw cw L' w'') : MpStep w g gw cw L' w'' := ⟨h.1, k.2.trans h.2 (fun _ _ h => h)⟩
theorem next_world {L : List Bool} {w : World} {v : Bool} {i : Nat} {e : Ending} {w' : World} (h : NextAns L v i w e w') : ∃ r : Nat, e = .returned (.int .i64 (r : Int)) ∧ NextIs L v i r ∧ Calm w w' := by
  obtain ⟨⟨r, h1, h2⟩, n, rfl⟩ := h
  exact ⟨r, h1, h2, Calm.drewN w n⟩
section
variable (g gw cw : Nat) (L : List Bool) (w : World) (h : Mp w g gw cw L) (hT : Tz w)
include h
set_option maxHeartbeats 1000000 in
theorem fill_any (at_ n : Nat) (hl : at_ + n ≤ L.length) : Calls Tryd.prog 21 #[.pointer (some ⟨g, 0, none⟩), .int .i64 (at_ : Int), .int .i64 (n : Int)] w fun e w' => e = .returned (.tuple #[]) ∧ MpStep w g gw cw (putL L at_ true n) w' := by
  have hm := h.lt.2.2.2.2
  obtain ⟨N, hN⟩ : ∃ N, N = L.length := ⟨_, rfl⟩
  rw [← hN] at hl hm
  have HN := Lib.hid hN
  have I0 : Hid (MpStep w g gw cw (putL L at_ true (at_ - at_)) w) := Lib.hid (by
    rw [Nat.sub_self]
    exact MpStep.same h)
  clear hN h
  go_enter Tryd.func21, Tryd.ntmps21
  go_wp2
  go_loopw [6] (fun s wr => ∃ j : Nat, s = .int .i64 (j : Int) ∧ at_ ≤ j ∧ j ≤ at_ + n ∧ Hid (MpStep w g gw cw (putL L at_ true (j - at_)) wr)) (fun s _ => at_ + n - (intOf s).toNat)
  case atStart => exact ⟨at_, rfl, Nat.le_refl _, by omega, I0⟩
  case round =>
    obtain ⟨j, rfl, hj1, hj2, hrel⟩ := hrel
    clear I0
    by_cases hlt : j < at_ + n
    · have q := hrel.out
      have hlen : j < (putL L at_ true (j - at_)).length := by rw [putL_length, ← HN.out]; omega
      have em : markL (putL L at_ true (j - at_)) (j : Int) true = putL L at_ true (j + 1 - at_) := by
        unfold markL
        rw [thereB_nat, if_pos (by simpa using hlen), show j + 1 - at_ = j - at_ + 1 by omega]
        show (putL L at_ true (j - at_)).set j true = (putL L at_ true (j - at_)).set (at_ + (j - at_)) true
        rw [show at_ + (j - at_) = j by omega]
      have C := Lib.hid (set_any g gw cw _ wr q.1 (j : Int))
      rw [em] at C
      have A := Lib.hid q
      clear q hrel em hlen
      go_wp2_with fail
      refine C.out.mono ?_
      rintro e w2 ⟨rfl, m2⟩
      have R := Lib.hid (A.out.then m2)
      clear m2 C A
      go_wp2
      go_roundw
      case rel => exact ⟨j + 1, by go_num, by omega, by omega, R⟩
      case measure => simp [intOf]; omega
    · have hje : j = at_ + n := by omega
      have R : Hid (MpStep w g gw cw (putL L at_ true n) wr) := Lib.hid (by
        have := hrel.out
        rwa [hje, show at_ + n - at_ = n by omega] at this)
      have d1 : decide ((j : Int) < (at_ : Int) + (n : Int)) = false := decide_eq_false (by omega)
      clear hje hrel
      go_wp2
      go_end0
      exact ⟨rfl, R.out⟩
include hT
theorem next_free (i : Nat) (hi : i ≤ L.length) : Calls Tryd.prog 20 #[.pointer (some ⟨g, 0, none⟩), .int .i64 (i : Int), .int .u64 18446744073709551615] w fun e w' => ∃ r : Nat, e = .returned (.int .i64 (r : Int)) ∧ NextIs L false i r ∧ Calm w w' :=
  (next_any g gw cw L false i w h hT hi).mono fun _ _ hh => next_world hh
theorem next_taken (i : Nat) (hi : i ≤ L.length) : Calls Tryd.prog 20 #[.pointer (some ⟨g, 0, none⟩), .int .i64 (i : Int), .int .u64 0] w fun e w' => ∃ r : Nat, e = .returned (.int .i64 (r : Int)) ∧ NextIs L true i r ∧ Calm w w' :=
  (next_any g gw cw L true i w h hT hi).mono fun _ _ hh => next_world hh
end
/-- What Run answers of n places. -/
inductive RunAns (w : World) (g gw cw : Nat) (L : List Bool) (n : Nat) (e : Ending) (w' : World) : Prop
  | some (a : Nat) (h : RunIs L n a) (he : e = .returned (.tuple #[.int .i64 (a : Int), .int .i64 0])) (hs : MpStep w g gw cw (putL L a true n) w')
  | none (h : RunNone L n) (he : e = .returned (.tuple #[.int .i64 0, .int .i64 14])) (hs : MpStep w g gw cw L w')
section
variable (g gw cw : Nat) (L : List Bool) (w : World)
set_option maxHeartbeats 400000 in
theorem run_no (n : Int) (hn : n < 1) : Calls Tryd.prog 11 #[.pointer (some ⟨g, 0, none⟩), .int .i64 n] w fun e w' => e = .returned (.tuple #[.int .i64 0, .int .i64 1]) ∧ w = w' := by
  go_enter Tryd.func11, Tryd.ntmps11
  go_wp2
  go_ret2
  exact ⟨rfl, rfl⟩
variable (h : Mp w g gw cw L) (hT : Tz w)
include h hT
set_option maxHeartbeats 2000000 in
theorem run_any (n : Nat) (hn : 1 ≤ n) (hn2 : n ≤ 9223372036854775807) : Calls Tryd.prog 11 #[.pointer (some ⟨g, 0, none⟩), .int .i64 (n : Int)] w (RunAns w g gw cw L n) := by
  have hm := h.lt.2.2.2.2
  obtain ⟨N, hN⟩ : ∃ N, N = L.length := ⟨_, rfl⟩
  rw [← hN] at hm
  have C0 := Lib.hid (next_free g gw cw L w h hT 0 (Nat.zero_le _))
  have HC0 : Hid (∀ W, Calm w W → W.cell? ⟨g, 0, none⟩ = some (.int .i64 (N : Int))) := Lib.hid (fun W k => by
    obtain ⟨ws, hh⟩ := h.calm k
    have := hh.c0
    rwa [hN])
  have HH := Lib.hid h
  have HTz := Lib.hid hT
  have HN := Lib.hid hN
  have d1 : decide ((n : Int) < 1) = false := decide_eq_false (by omega)
  clear h hT hN
  go_enter Tryd.func11, Tryd.ntmps11
  go_wp2_with fail
  refine C0.out.mono ?_
  rintro e w1 ⟨a0, rfl, n0, k0⟩
  have I0 : Hid (a0 ≤ L.length ∧ (a0 < L.length → L.getD a0 false = false) ∧ (∀ b, b < a0 → ¬ Fits L n b) ∧ Calm w w1) := Lib.hid ⟨n0.le, n0.yes, run_first n0 hn, k0⟩
  clear n0 k0 C0
  go_wp2
  go_loopw [6] (fun s wr => ∃ a : Nat, s = .int .i64 (a : Int) ∧ Hid (a ≤ L.length ∧ (a < L.length → L.getD a false = false) ∧ (∀ b, b < a → ¬ Fits L n b) ∧ Calm w wr)) (fun s _ => N - (intOf s).toNat)
  case atStart => exact ⟨a0, rfl, I0⟩
  case round =>
    obtain ⟨a, rfl, hrel⟩ := hrel
    clear I0
    obtain ⟨q1, q2, q3, q4⟩ := hrel.out
    have c0 := HC0.out wr q4
    by_cases hlt : a < N
    · have C1 := Lib.hid (next_taken g gw cw L wr (HH.out.calm q4) (HTz.out.calm q4) a q1)
      have Q := Lib.hid (And.intro q2 (And.intro q3 q4))
      clear q1 q2 q3 q4 hrel
      go_wp2_with fail
      refine C1.out.mono ?_
      rintro e w2 ⟨b, rfl, n2, k2⟩
      obtain ⟨q2, q3, q4⟩ := Q.out
      have k02 := q4.trans k2
      have hba := n2.ge
      have hbl := n2.le
      have hgt := run_more n2 (by rw [← HN.out]; exact hlt) (q2 (by rw [← HN.out]; exact hlt))
      rw [← HN.out] at hbl
      by_cases hfit : n ≤ b - a
      · have rh := run_here n2 q3 hfit
        have C2 := Lib.hid (fill_any g gw cw L w2 (HH.out.calm k02) a n rh.fits.1)
        have K := Lib.hid k02
        have RH := Lib.hid rh
        have d2 : decide ((n : Int) ≤ (b : Int) - (a : Int)) = true := decide_eq_true (by omega)
        have e1 : IntKind.i64.wrap ((b : Int) - (a : Int)) = (b : Int) - (a : Int) := IntWalk.i64_in _ (by omega)
        clear n2 k2 q2 q3 q4 Q C1 rh k02
        go_wp2_with fail
        refine C2.out.mono ?_
        rintro e w3 ⟨rfl, m3⟩
        have R := Lib.hid (RunAns.some (w := w) (e := .returned (.tuple #[.int .i64 (a : Int), .int .i64 0])) a RH.out rfl (m3.after K.out))
        clear m3 C2
        go_wp2
        go_ret2
        exact R.out
      · have C2 := Lib.hid (next_free g gw cw L w2 (HH.out.calm k02) (HTz.out.calm k02) b (by rw [← HN.out]; exact hbl))
        have K := Lib.hid (And.intro n2 (And.intro q3 k02))
        have d2 : decide ((n : Int) ≤ (b : Int) - (a : Int)) = false := decide_eq_false (by omega)
        have e1 : IntKind.i64.wrap ((b : Int) - (a : Int)) = (b : Int) - (a : Int) := IntWalk.i64_in _ (by omega)
        clear n2 k2 q2 q3 q4 Q C1 k02
        go_wp2_with fail
        refine C2.out.mono ?_
        rintro e w3 ⟨a', rfl, n3, k3⟩
        obtain ⟨n2, q3, k02⟩ := K.out
        have hge := n3.ge
        have R : Hid (a' ≤ L.length ∧ (a' < L.length → L.getD a' false = false) ∧ (∀ b, b < a' → ¬ Fits L n b) ∧ Calm w w3) := Lib.hid ⟨n3.le, n3.yes, run_on n2 n3 hn q3 (by omega), k02.trans k3⟩
        clear n3 k3 n2 q3 k02 K C2
        go_wp2
        go_roundw
        case rel => exact ⟨a', rfl, R⟩
        case measure => simp [intOf]; omega
    · have R : Hid (RunAns w g gw cw L n (.returned (.tuple #[.int .i64 0, .int .i64 14])) wr) := Lib.hid (RunAns.none (run_end hn q3 (by rw [← HN.out]; omega)) rfl (MpStep.calm HH.out q4))
      have d2 : decide ((a : Int) < (N : Int)) = false := decide_eq_false (by omega)
      clear q1 q2 q3 q4 hrel
      go_wp2
      go_ret2
      exact R.out
set_option maxHeartbeats 400000 in
theorem take9_any : Calls Tryd.prog 8 #[.pointer (some ⟨g, 0, none⟩)] w (RunAns w g gw cw L 1) := by
  have C := Lib.hid (run_any g gw cw L w h hT 1 (Nat.le_refl _) (by decide))
  clear h hT
  go_enter Tryd.func8, Tryd.ntmps8
  go_wp2_with fail
  refine C.out.mono ?_
  rintro e w2 hh
  have R := Lib.hid hh
  rcases hh with ⟨a, _, rfl, _⟩ | ⟨_, rfl, _⟩
  · clear C
    go_wp2
    go_ret2
    exact R.out
  · clear C
    go_wp2
    go_ret2
    exact R.out
end
end Go.Proofs.YtaenobgpbphlfaaDoor
