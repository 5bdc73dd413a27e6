/-
  Does a disk tell what the law's own does?
-/
import Derived.Test.YtddllgbficjaoaaLaw7PlateW
namespace Go.Proofs.Ytddllgbficjaoaa
open Go.RowKit Go.Lib
set_option maxRecDepth 100000

theorem str_append (a b : List UInt8) : strOf a ++ strOf b = strOf (a ++ b) := by
  unfold strOf
  rw [ByteArray.mk_append_mk]
/-- What the two disks lie in, in whatever world that only grew. -/
structure SameAt (w : World) (F E Ep : Nat → Prop) (g gp : Nat) (s : D) (gk ck gn cn : Nat) (wv hv : Value) (kp : List Bool) : Prop where
  dk : Dk w F E g s
  pl : PlA w Ep gp s gk ck gn cn wv hv kp
theorem SameAt.new {w w' : World} {F E Ep : Nat → Prop} {g gp : Nat} {s : D} {gk ck gn cn : Nat} {wv hv : Value} {kp : List Bool} (h : SameAt w F E Ep g gp s gk ck gn cn wv hv kp) (k : Only (fun _ => False) w w') : SameAt w' F E Ep g gp s gk ck gn cn wv hv kp :=
  ⟨h.dk.only k (fun _ _ h => h.elim), h.pl.only k (fun _ _ h => h.elim)⟩

set_option maxHeartbeats 8000000 in
theorem same_any (F E Ep : Nat → Prop) (g gp : Nat) (s : D) (w : World) (hd : Dk w F E g s) (hp : PlAt w Ep gp s) :
    Calls Try.prog 17 #[.pointer (some ⟨g, 0, none⟩), .pointer (some ⟨gp, 0, none⟩)] w fun e w' => e = .returned (.bool true) ∧ Below w.heap.size w w' := by
  obtain ⟨gk, ck, gn, cn, wv, hv, kp, hp⟩ := hp
  have HS : Hid (SameAt w F E Ep g gp s gk ck gn cn wv hv kp) := ⟨hd, hp⟩
  obtain ⟨Aw, cw, hwe, _⟩ := RwIs.of_own hp.wait
  have CO : Hid (∀ n, Calls Try.prog 23 #[.pointer (some ⟨g, 0, none⟩)] (w.drewN n) fun e w' => e = .returned (.bool s.off) ∧ w' = w.drewN n) := fun n =>
    (off_any F E g s _ (hd.only (S := fun _ => False) ((Only.refl _ w).drewN n) (fun _ _ h => h.elim))).mono fun e w' hh => ⟨hh.1, hh.2.symm⟩
  have CP : Hid (∀ n, Calls Try.prog 21 #[.pointer (some ⟨g, 0, none⟩)] (w.drewN n) fun e w' => e = .returned (.int .i64 (s.pend.length : Int)) ∧ w' = w.drewN n) := fun n =>
    (pending_any F E g s _ (hd.only (S := fun _ => False) ((Only.refl _ w).drewN n) (fun _ _ h => h.elim))).mono fun e w' hh => ⟨hh.1, hh.2.symm⟩
  have CW : Hid (∀ n, Calls Try.prog 24 #[.pointer (some ⟨g, 0, none⟩)] (w.drewN n) fun e w' => e = .returned (.int .i64 (s.writes : Int)) ∧ w' = w.drewN n) := fun n =>
    (writes_any F E g s _ (hd.only (S := fun _ => False) ((Only.refl _ w).drewN n) (fun _ _ h => h.elim))).mono fun e w' hh => ⟨hh.1, hh.2.symm⟩
  have c3 := hp.has.cell 3
  have c4 := hp.has.cell 4
  have c7 := hp.has.cell 7
  rw [hwe] at c3
  simp at c3 c4 c7
  have hmost := hp.ok.most
  have hok := hp.ok
  have HOK := Lib.hid hok
  clear hd hp hwe hok
  cases ho : s.off with
  | true =>
    rw [ho] at c4 CO
    go_enter Try.func17, Try.ntmps17
    go_upto_region 1 with fail
    go_quiet (first
      | (go_at_call 23; exact Calls.quiet_of_same (CO.out _))
      | (go_at_call 21; exact Calls.quiet_of_same (CP.out _))
      | (go_at_call 24; exact Calls.quiet_of_same (CW.out _)))
    have I0 : Hid (Only (fun _ => False) w (w.drewN nq)) := (Only.refl _ w).drewN nq
    clear CO CP CW c3 c4 c7
    go_wp2_with fail
    go_loopw [5, 6] (fun u v wr => ∃ (j : Nat) (B : ByteArray), j ≤ s.kept.length ∧ u = .string B ∧ v = .int .i64 j ∧ Hid (B = strOf (s.kept.take j).flatten) ∧ Hid (Only (fun _ => False) w wr)) (fun _ v _ => s.kept.length - (RowKit.intOf v).toNat)
    case atStart => exact ⟨0, _, Nat.zero_le _, rfl, rfl, Lib.hid rfl, I0⟩
    case round =>
      obtain ⟨j, B, hj, rfl, rfl, hB, hrel⟩ := hrel
      clear I0
      have hS := HS.out.new hrel.out
      have c2 := hS.pl.has.cell 2
      simp at c2
      by_cases hlt : j < s.kept.length
      · have hks : j < s.seen.length := by rw [D.seen_length]; exact hlt
        have CR := read_any F E g (j : Int) s wr hS.dk
        have hr : s.read (j : Int) = (22, []) := by
          rw [D.read, if_pos ho]
        rw [hr] at CR
        have hxl : s.kept[j].length ≤ 1024 := by rw [HOK.out.long _ (List.getElem_mem hlt)]; exact HOK.out.small
        have hfl : (s.kept.take j).flatten.length ≤ 16777216 := by
          have h1 := flat_len (z := s.size) (s.kept.take j) (fun x hx => HOK.out.long x (List.mem_of_mem_take hx))
          have h2 : (s.kept.take j).length ≤ 16384 := by rw [List.length_take]; omega
          have h3 := Nat.mul_le_mul h2 HOK.out.small
          rw [h1]
          omega
        have hst : (s.kept.take (j + 1)).flatten = (s.kept.take j).flatten ++ s.kept[j] := by
          rw [List.take_succ_eq_append_getElem hlt, List.flatten_append]
          simp
        have FC : Hid (∀ w2 x, SlIs w2 wr.heap.size w2.heap.size x ([] : List UInt8) → Below wr.heap.size wr w2 → (∃ A c, x = .slice A (([] : List UInt8)).length c ∧ ∀ n, (convert 34 9 (.slice A (([] : List UInt8)).length c)).run Try.prog (w2.drewN n) = .ok (.string (strOf ([] : List UInt8))) (w2.drewN n)) ∧
            w2.cell? ⟨gp, 4, none⟩ = some (.bool true) ∧ w2.cell? ⟨gp, 2, none⟩ = some (.slice (some ⟨gn, 0, none⟩) s.kept.length cn) ∧ w2.cell? ⟨gn, j, none⟩ = some (.string (strOf s.seen[j])) ∧ w2.cell? ⟨gp, 1, none⟩ = some (.slice (some ⟨gk, 0, none⟩) s.kept.length ck) ∧ w2.cell? ⟨gk, j, none⟩ = some (.string (strOf s.kept[j])) ∧ (∀ n, Only (fun _ => False) w (w2.drewN n))) := fun w2 x hx hb => by
          have kb : Only (fun _ => False) wr w2 := ⟨hb.os, hb.tape, hb.output, hb.size, fun i hi _ => hb.block i hi⟩
          have h2 := hS.new kb
          have e4 := h2.pl.has.cell 4
          have e2 := h2.pl.has.cell 2
          have e1 := h2.pl.has.cell 1
          rw [ho] at e4
          have hx' := hx
          obtain ⟨A, c, rfl, _⟩ := hx'
          exact ⟨⟨A, c, rfl, fun n => run_str _ _ _ _ _ (hx.only ((Only.refl (fun _ => False) w2).drewN n) (Nat.le_refl _) (fun _ _ _ h => h))⟩, by simpa using e4, by simpa using e2, h2.pl.now.cell hks, by simpa using e1, h2.pl.kept.cell hlt, fun n => (hrel.out.trans kb (fun _ _ h => h)).drewN n⟩
        rw [hB.out]
        generalize s.seen[j] = y at FC CR hr
        generalize s.kept[j] = x at FC hxl hst
        generalize (s.kept.take j).flatten = L at hst hfl
        have happ := str_append L x
        have hsum : ¬ (9223372036854775807 < (strOf L).size + (strOf x).size) := by rw [size_of_str, size_of_str]; omega
        have HC := Lib.hid CR
        have HST := Lib.hid hst
        have i2 : (0 : Int) ≤ (j : Int) := by omega
        have i3 : (j : Int) < (s.kept.length : Int) := by omega
        have d0 : decide (j < s.kept.length) = true := decide_eq_true hlt
        clear CR hS hr hks hrel hst hxl hfl hB
        go_wp2_with fail
        refine HC.out.mono ?_
        rintro e w2 ⟨v, rfl, hx, hb⟩
        obtain ⟨⟨A, c, rfl, hcv⟩, x4, x2, xn, x1, xk, xo⟩ := FC.out w2 v hx hb
        have XO := Lib.hid xo
        clear hx hb FC HC xo
        go_upto_region 8 with fail
        go_quiet (fail)
        go_wp2
        go_roundw
        case rel => exact ⟨j + 1, _, by omega, rfl, by go_num, Lib.hid (by rw [HST.out]), Lib.hid (XO.out _)⟩
        case measure => simp [RowKit.intOf]; omega
      · have hje : j = s.kept.length := by omega
        subst hje
        have CR := read_any F E g (s.kept.length : Int) s wr hS.dk
        have hr : s.read (s.kept.length : Int) = (22, []) := by
          rw [D.read, if_pos ho]
        rw [hr] at CR
        have hBB := hB.out
        rw [List.take_length] at hBB
        rw [hBB]
        have FC : Hid (∀ w2, Below wr.heap.size wr w2 → (Calls Try.prog 20 #[.pointer (some ⟨g, 0, none⟩)] w2 fun e w3 => ∃ A c, e = .returned (.slice A s.kept.flatten.length c) ∧ (convert 34 9 (.slice A s.kept.flatten.length c)).run Try.prog w3 = .ok (.string (strOf s.kept.flatten)) w3 ∧ w3.cell? ⟨gp, 4, none⟩ = some (.bool true) ∧ Below w.heap.size w w3)) := fun w2 hb => by
          have kb : Only (fun _ => False) wr w2 := ⟨hb.os, hb.tape, hb.output, hb.size, fun i hi _ => hb.block i hi⟩
          have h2 := hS.new kb
          refine (diskbytes_any F E g s w2 h2.dk).mono fun e w3 hh => ?_
          obtain ⟨v, rfl, q1, q2⟩ := hh
          have k3 : Only (fun _ => False) w2 w3 := ⟨q2.os, q2.tape, q2.output, q2.size, fun i hi _ => q2.block i hi⟩
          have e4 := (h2.new k3).pl.has.cell 4
          rw [ho] at e4
          have h3 := owns_SlIs q1
          obtain ⟨A, c, rfl, _⟩ := id h3
          exact ⟨A, c, rfl, run_str _ _ _ _ _ h3, by simpa using e4, ((hrel.out.trans kb (fun _ _ h => h)).trans k3 (fun _ _ h => h)).below (Nat.le_refl _) (fun _ _ h => h)⟩
        generalize s.kept.flatten = L at FC
        have HC := Lib.hid CR
        clear CR hS hr hrel hB hBB
        go_wp2_with fail
        refine HC.out.mono ?_
        rintro e w2 ⟨v, rfl, hx, hb⟩
        obtain ⟨A2, c2', rfl, _⟩ := hx
        have CB := Lib.hid (FC.out w2 hb)
        clear hb FC HC
        go_wp2_with fail
        refine CB.out.mono ?_
        rintro e w3 ⟨A, c, rfl, hcv, x4, hb3⟩
        have R := Lib.hid hb3
        clear hb3 CB
        go_wp2
        go_ret
        exact ⟨rfl, R.out⟩
  | false =>
    rw [ho] at c4 CO
    go_enter Try.func17, Try.ntmps17
    go_upto_region 1 with fail
    go_quiet (first
      | (go_at_call 23; exact Calls.quiet_of_same (CO.out _))
      | (go_at_call 21; exact Calls.quiet_of_same (CP.out _))
      | (go_at_call 24; exact Calls.quiet_of_same (CW.out _)))
    have I0 : Hid (Only (fun _ => False) w (w.drewN nq)) := (Only.refl _ w).drewN nq
    clear CO CP CW c3 c4 c7
    go_wp2_with fail
    go_loopw [5, 6] (fun u v wr => ∃ (j : Nat) (B : ByteArray), j ≤ s.kept.length ∧ u = .string B ∧ v = .int .i64 j ∧ Hid (B = strOf (s.kept.take j).flatten) ∧ Hid (Only (fun _ => False) w wr)) (fun _ v _ => s.kept.length - (RowKit.intOf v).toNat)
    case atStart => exact ⟨0, _, Nat.zero_le _, rfl, rfl, Lib.hid rfl, I0⟩
    case round =>
      obtain ⟨j, B, hj, rfl, rfl, hB, hrel⟩ := hrel
      clear I0
      have hS := HS.out.new hrel.out
      have c2 := hS.pl.has.cell 2
      simp at c2
      by_cases hlt : j < s.kept.length
      · have hks : j < s.seen.length := by rw [D.seen_length]; exact hlt
        have CR := read_any F E g (j : Int) s wr hS.dk
        have hr : s.read (j : Int) = (0, s.seen[j]) := by
          rw [D.read, if_neg (by rw [ho]; decide), if_pos (by omega)]
          simp [List.getD, hks]
        rw [hr] at CR
        have hxl : s.kept[j].length ≤ 1024 := by rw [HOK.out.long _ (List.getElem_mem hlt)]; exact HOK.out.small
        have hfl : (s.kept.take j).flatten.length ≤ 16777216 := by
          have h1 := flat_len (z := s.size) (s.kept.take j) (fun x hx => HOK.out.long x (List.mem_of_mem_take hx))
          have h2 : (s.kept.take j).length ≤ 16384 := by rw [List.length_take]; omega
          have h3 := Nat.mul_le_mul h2 HOK.out.small
          rw [h1]
          omega
        have hst : (s.kept.take (j + 1)).flatten = (s.kept.take j).flatten ++ s.kept[j] := by
          rw [List.take_succ_eq_append_getElem hlt, List.flatten_append]
          simp
        have FC : Hid (∀ w2 x, SlIs w2 wr.heap.size w2.heap.size x s.seen[j] → Below wr.heap.size wr w2 → (∃ A c, x = .slice A (s.seen[j]).length c ∧ ∀ n, (convert 34 9 (.slice A (s.seen[j]).length c)).run Try.prog (w2.drewN n) = .ok (.string (strOf s.seen[j])) (w2.drewN n)) ∧
            w2.cell? ⟨gp, 4, none⟩ = some (.bool false) ∧ w2.cell? ⟨gp, 2, none⟩ = some (.slice (some ⟨gn, 0, none⟩) s.kept.length cn) ∧ w2.cell? ⟨gn, j, none⟩ = some (.string (strOf s.seen[j])) ∧ w2.cell? ⟨gp, 1, none⟩ = some (.slice (some ⟨gk, 0, none⟩) s.kept.length ck) ∧ w2.cell? ⟨gk, j, none⟩ = some (.string (strOf s.kept[j])) ∧ (∀ n, Only (fun _ => False) w (w2.drewN n))) := fun w2 x hx hb => by
          have kb : Only (fun _ => False) wr w2 := ⟨hb.os, hb.tape, hb.output, hb.size, fun i hi _ => hb.block i hi⟩
          have h2 := hS.new kb
          have e4 := h2.pl.has.cell 4
          have e2 := h2.pl.has.cell 2
          have e1 := h2.pl.has.cell 1
          rw [ho] at e4
          have hx' := hx
          obtain ⟨A, c, rfl, _⟩ := hx'
          exact ⟨⟨A, c, rfl, fun n => run_str _ _ _ _ _ (hx.only ((Only.refl (fun _ => False) w2).drewN n) (Nat.le_refl _) (fun _ _ _ h => h))⟩, by simpa using e4, by simpa using e2, h2.pl.now.cell hks, by simpa using e1, h2.pl.kept.cell hlt, fun n => (hrel.out.trans kb (fun _ _ h => h)).drewN n⟩
        rw [hB.out]
        generalize s.seen[j] = y at FC CR hr
        generalize s.kept[j] = x at FC hxl hst
        generalize (s.kept.take j).flatten = L at hst hfl
        have happ := str_append L x
        have hsum : ¬ (9223372036854775807 < (strOf L).size + (strOf x).size) := by rw [size_of_str, size_of_str]; omega
        have HC := Lib.hid CR
        have HST := Lib.hid hst
        have i2 : (0 : Int) ≤ (j : Int) := by omega
        have i3 : (j : Int) < (s.kept.length : Int) := by omega
        have d0 : decide (j < s.kept.length) = true := decide_eq_true hlt
        clear CR hS hr hks hrel hst hxl hfl hB
        go_wp2_with fail
        refine HC.out.mono ?_
        rintro e w2 ⟨v, rfl, hx, hb⟩
        obtain ⟨⟨A, c, rfl, hcv⟩, x4, x2, xn, x1, xk, xo⟩ := FC.out w2 v hx hb
        have XO := Lib.hid xo
        clear hx hb FC HC xo
        go_upto_region 8 with fail
        go_quiet (fail)
        go_wp2
        go_roundw
        case rel => exact ⟨j + 1, _, by omega, rfl, by go_num, Lib.hid (by rw [HST.out]), Lib.hid (XO.out _)⟩
        case measure => simp [RowKit.intOf]; omega
      · have hje : j = s.kept.length := by omega
        subst hje
        have CR := read_any F E g (s.kept.length : Int) s wr hS.dk
        have hr : s.read (s.kept.length : Int) = (1, []) := by
          rw [D.read, if_neg (by rw [ho]; decide), if_neg (by omega)]
        rw [hr] at CR
        have hBB := hB.out
        rw [List.take_length] at hBB
        rw [hBB]
        have FC : Hid (∀ w2, Below wr.heap.size wr w2 → (Calls Try.prog 20 #[.pointer (some ⟨g, 0, none⟩)] w2 fun e w3 => ∃ A c, e = .returned (.slice A s.kept.flatten.length c) ∧ (convert 34 9 (.slice A s.kept.flatten.length c)).run Try.prog w3 = .ok (.string (strOf s.kept.flatten)) w3 ∧ w3.cell? ⟨gp, 4, none⟩ = some (.bool false) ∧ Below w.heap.size w w3)) := fun w2 hb => by
          have kb : Only (fun _ => False) wr w2 := ⟨hb.os, hb.tape, hb.output, hb.size, fun i hi _ => hb.block i hi⟩
          have h2 := hS.new kb
          refine (diskbytes_any F E g s w2 h2.dk).mono fun e w3 hh => ?_
          obtain ⟨v, rfl, q1, q2⟩ := hh
          have k3 : Only (fun _ => False) w2 w3 := ⟨q2.os, q2.tape, q2.output, q2.size, fun i hi _ => q2.block i hi⟩
          have e4 := (h2.new k3).pl.has.cell 4
          rw [ho] at e4
          have h3 := owns_SlIs q1
          obtain ⟨A, c, rfl, _⟩ := id h3
          exact ⟨A, c, rfl, run_str _ _ _ _ _ h3, by simpa using e4, ((hrel.out.trans kb (fun _ _ h => h)).trans k3 (fun _ _ h => h)).below (Nat.le_refl _) (fun _ _ h => h)⟩
        generalize s.kept.flatten = L at FC
        have HC := Lib.hid CR
        clear CR hS hr hrel hB hBB
        go_wp2_with fail
        refine HC.out.mono ?_
        rintro e w2 ⟨v, rfl, hx, hb⟩
        obtain ⟨A2, c2', rfl, _⟩ := hx
        have CB := Lib.hid (FC.out w2 hb)
        clear hb FC HC
        go_wp2_with fail
        refine CB.out.mono ?_
        rintro e w3 ⟨A, c, rfl, hcv, x4, hb3⟩
        have R := Lib.hid hb3
        clear hb3 CB
        go_wp2
        go_ret
        exact ⟨rfl, R.out⟩
end Go.Proofs.Ytddllgbficjaoaa
