/-
  PagesArgs: where a book may be made.
-/
import Derived.Test.YtnhojcldeloigaaGreatPagesX
namespace Go.Proofs.YtnhojcldeloigaaGreat
open Go.RowKit Go.Lib Go.Maps
set_option maxRecDepth 100000

def k81 : D := D.new 64 (List.replicate 60 (List.replicate 64 0))
theorem k81_len : k81.kept.length = 60 := by show (List.replicate 60 (List.replicate 64 (0 : UInt8))).length = 60; simp
theorem k81_ok : k81.Ok := D.new_ok (by simp) (by simp) (by decide) (fun y hy => by rw [(List.mem_replicate.1 hy).2]; simp)
/-- The first of what is asked that is not so. -/
def argsNo (a n k : Int) : Prop := ¬ 0 ≤ a ∨ (0 ≤ a ∧ ¬ 0 ≤ n) ∨ (0 ≤ a ∧ 0 ≤ n ∧ ¬ a ≤ 60) ∨ (0 ≤ a ∧ 0 ≤ n ∧ a ≤ 60 ∧ ¬ n ≤ 60 - a) ∨ (0 ≤ a ∧ 0 ≤ n ∧ a ≤ 60 ∧ n ≤ 60 - a ∧ ¬ 1 ≤ k) ∨ (0 ≤ a ∧ 0 ≤ n ∧ a ≤ 60 ∧ n ≤ 60 - a ∧ 1 ≤ k ∧ ¬ k ≤ 1024) ∨ (0 ≤ a ∧ 0 ≤ n ∧ a ≤ 60 ∧ n ≤ 60 - a ∧ 1 ≤ k ∧ k ≤ 1024 ∧ ¬ 3 * k + 16 ≤ n)
theorem no_of_args {a n k : Int} (h : argsNo a n k) : there 60 a n = false ∨ mayH n k = false := by
  cases h1 : there 60 a n with
  | false => exact .inl rfl
  | true =>
    cases h2 : mayH n k with
    | false => exact .inr rfl
    | true =>
      have h1 : 0 ≤ a ∧ a < (60 : Nat) ∧ 0 ≤ n ∧ n ≤ (60 : Nat) - a := of_decide_eq_true h1
      have h2 : 1 ≤ k ∧ k ≤ 1024 ∧ 3 * k + 16 ≤ n := of_decide_eq_true h2
      unfold argsNo at h
      omega
section
variable (w : World)
set_option maxHeartbeats 4000000 in
theorem args_no (a n k : Int) (h : argsNo a n k) : Calls Tryz.prog 4 #[.int .i64 a, .int .i64 n, .int .i64 k] w fun e w' => e = .returned (.bool true) ∧ Below w.heap.size w w' := by
  have hno := no_of_args h
  have CK := Lib.hid (known8_any w)
  have C1 : Hid (∀ w1, Below w.heap.size w w1 → Calls Tryz.prog 9 #[.int .i64 60, .int .i64 64] w1 fun e w2 => ∃ gd, e = .returned (.tuple #[.pointer (some ⟨gd, 0, none⟩), .int .i64 0]) ∧ Live w (fun _ => False) gd k81 w2) := fun w1 b1 => (disknew_any 60 64 w1).mono fun e w2 hN => by
    rw [NewAns, if_pos (by decide)] at hN
    obtain ⟨v, rfl, hm⟩ := hN
    obtain ⟨gd, rfl, L0, _⟩ := Live.made b1 (K := fun _ => False) (fun _ h => h.elim) hm
    exact ⟨gd, rfl, L0⟩
  have C2 : Hid (∀ gd w2, Live w (fun _ => False) gd k81 w2 → Calls Tryz.prog 10 #[.pointer (some ⟨gd, 0, none⟩), .int .i64 a, .int .i64 n, .int .i64 k] w2 fun e w' => e = .returned (.tuple #[.pointer none, .int .i64 1]) ∧ Below w.heap.size w w') := fun gd w2 l2 => (lv_format_not w w2 _ gd k81 l2 a n k (by rw [k81_len]; exact hno)).mono fun e w' hh => ⟨hh.1, hh.2.1.low⟩
  clear hno
  rcases h with h1 | ⟨h1, h2⟩ | ⟨h1, h2, h3⟩ | ⟨h1, h2, h3, h4⟩ | ⟨h1, h2, h3, h4, h5⟩ | ⟨h1, h2, h3, h4, h5, h6⟩ | ⟨h1, h2, h3, h4, h5, h6, h7⟩
  · have d : decide (0 ≤ a) = false := decide_eq_false h1
    clear h1
    go_enter Tryz.func4, Tryz.ntmps4
    go_wp2_with fail
    refine CK.out.mono ?_
    rintro e w1 ⟨rfl, b1⟩
    have D1 := Lib.hid (C1.out w1 b1)
    clear b1 C1 CK
    go_wp2_with fail
    refine D1.out.mono ?_
    rintro e w2 ⟨gd, rfl, l2⟩
    have D2 := Lib.hid (C2.out gd w2 l2)
    clear l2 C2 D1
    go_wp2_with fail
    refine D2.out.mono ?_
    rintro e w3 ⟨rfl, b3⟩
    have R := Lib.hid b3
    clear b3 D2
    go_wp2
    go_ret
    exact ⟨rfl, R.out⟩
  · have d : decide (0 ≤ n) = false := decide_eq_false h2
    clear h2
    go_enter Tryz.func4, Tryz.ntmps4
    go_wp2_with fail
    refine CK.out.mono ?_
    rintro e w1 ⟨rfl, b1⟩
    have D1 := Lib.hid (C1.out w1 b1)
    clear b1 C1 CK
    go_wp2_with fail
    refine D1.out.mono ?_
    rintro e w2 ⟨gd, rfl, l2⟩
    have D2 := Lib.hid (C2.out gd w2 l2)
    clear l2 C2 D1
    go_wp2_with fail
    refine D2.out.mono ?_
    rintro e w3 ⟨rfl, b3⟩
    have R := Lib.hid b3
    clear b3 D2
    go_wp2
    go_ret
    exact ⟨rfl, R.out⟩
  · have d : decide (a ≤ 60) = false := decide_eq_false h3
    clear h3
    go_enter Tryz.func4, Tryz.ntmps4
    go_wp2_with fail
    refine CK.out.mono ?_
    rintro e w1 ⟨rfl, b1⟩
    have D1 := Lib.hid (C1.out w1 b1)
    clear b1 C1 CK
    go_wp2_with fail
    refine D1.out.mono ?_
    rintro e w2 ⟨gd, rfl, l2⟩
    have D2 := Lib.hid (C2.out gd w2 l2)
    clear l2 C2 D1
    go_wp2_with fail
    refine D2.out.mono ?_
    rintro e w3 ⟨rfl, b3⟩
    have R := Lib.hid b3
    clear b3 D2
    go_wp2
    go_ret
    exact ⟨rfl, R.out⟩
  · have d : decide (n ≤ 60 - a) = false := decide_eq_false h4
    have ew : IntKind.i64.wrap (60 - a) = 60 - a := IntWalk.i64_in _ (by omega)
    clear h4
    go_enter Tryz.func4, Tryz.ntmps4
    go_wp2_with fail
    refine CK.out.mono ?_
    rintro e w1 ⟨rfl, b1⟩
    have D1 := Lib.hid (C1.out w1 b1)
    clear b1 C1 CK
    go_wp2_with fail
    refine D1.out.mono ?_
    rintro e w2 ⟨gd, rfl, l2⟩
    have D2 := Lib.hid (C2.out gd w2 l2)
    clear l2 C2 D1
    go_wp2_with fail
    refine D2.out.mono ?_
    rintro e w3 ⟨rfl, b3⟩
    have R := Lib.hid b3
    clear b3 D2
    go_wp2
    go_ret
    exact ⟨rfl, R.out⟩
  · have d : decide (1 ≤ k) = false := decide_eq_false h5
    have ew : IntKind.i64.wrap (60 - a) = 60 - a := IntWalk.i64_in _ (by omega)
    clear h5
    go_enter Tryz.func4, Tryz.ntmps4
    go_wp2_with fail
    refine CK.out.mono ?_
    rintro e w1 ⟨rfl, b1⟩
    have D1 := Lib.hid (C1.out w1 b1)
    clear b1 C1 CK
    go_wp2_with fail
    refine D1.out.mono ?_
    rintro e w2 ⟨gd, rfl, l2⟩
    have D2 := Lib.hid (C2.out gd w2 l2)
    clear l2 C2 D1
    go_wp2_with fail
    refine D2.out.mono ?_
    rintro e w3 ⟨rfl, b3⟩
    have R := Lib.hid b3
    clear b3 D2
    go_wp2
    go_ret
    exact ⟨rfl, R.out⟩
  · have d : decide (k ≤ 1024) = false := decide_eq_false h6
    have ew : IntKind.i64.wrap (60 - a) = 60 - a := IntWalk.i64_in _ (by omega)
    clear h6
    go_enter Tryz.func4, Tryz.ntmps4
    go_wp2_with fail
    refine CK.out.mono ?_
    rintro e w1 ⟨rfl, b1⟩
    have D1 := Lib.hid (C1.out w1 b1)
    clear b1 C1 CK
    go_wp2_with fail
    refine D1.out.mono ?_
    rintro e w2 ⟨gd, rfl, l2⟩
    have D2 := Lib.hid (C2.out gd w2 l2)
    clear l2 C2 D1
    go_wp2_with fail
    refine D2.out.mono ?_
    rintro e w3 ⟨rfl, b3⟩
    have R := Lib.hid b3
    clear b3 D2
    go_wp2
    go_ret
    exact ⟨rfl, R.out⟩
  · have d : decide (3 * k + 16 ≤ n) = false := decide_eq_false h7
    have ew : IntKind.i64.wrap (60 - a) = 60 - a := IntWalk.i64_in _ (by omega)
    have ew2 : IntKind.i64.wrap (IntKind.i64.wrap (3 * k) + 16) = 3 * k + 16 := by rw [IntWalk.i64_in (3 * k) (by omega), IntWalk.i64_in _ (by omega)]
    clear h7
    go_enter Tryz.func4, Tryz.ntmps4
    go_wp2_with fail
    refine CK.out.mono ?_
    rintro e w1 ⟨rfl, b1⟩
    have D1 := Lib.hid (C1.out w1 b1)
    clear b1 C1 CK
    go_wp2_with fail
    refine D1.out.mono ?_
    rintro e w2 ⟨gd, rfl, l2⟩
    have D2 := Lib.hid (C2.out gd w2 l2)
    clear l2 C2 D1
    go_wp2_with fail
    refine D2.out.mono ?_
    rintro e w3 ⟨rfl, b3⟩
    have R := Lib.hid b3
    clear b3 D2
    go_wp2
    go_ret
    exact ⟨rfl, R.out⟩
set_option maxHeartbeats 4000000 in
theorem args_yes (a m k : Nat) (h1 : a ≤ 60) (h2 : (m : Int) ≤ 60 - (a : Int)) (h3 : 1 ≤ k) (h4 : k ≤ 1024) (h5 : 3 * k + 16 ≤ m) : Calls Tryz.prog 4 #[.int .i64 (a : Int), .int .i64 (m : Int), .int .i64 (k : Int)] w fun e w' => e = .returned (.bool true) ∧ Below w.heap.size w w' := by
  have CK := Lib.hid (known8_any w)
  have C1 : Hid (∀ w1, Below w.heap.size w w1 → Calls Tryz.prog 9 #[.int .i64 60, .int .i64 64] w1 fun e w2 => ∃ gd, e = .returned (.tuple #[.pointer (some ⟨gd, 0, none⟩), .int .i64 0]) ∧ Live w (fun _ => False) gd k81 w2) := fun w1 b1 => (disknew_any 60 64 w1).mono fun e w2 hN => by
    rw [NewAns, if_pos (by decide)] at hN
    obtain ⟨v, rfl, hm⟩ := hN
    obtain ⟨gd, rfl, L0, _⟩ := Live.made b1 (K := fun _ => False) (fun _ h => h.elim) hm
    exact ⟨gd, rfl, L0⟩
  have ok : BG.Ok ⟨a, m, 64, k⟩ k81.kept.length := ⟨by show 64 ≤ 64; decide, by show 64 ≤ 1024; decide, h3, h4, h5, by rw [k81_len]; show a + m ≤ 60; omega, by rw [k81_len]; decide⟩
  obtain ⟨f1, _, f3, _⟩ := format_calm (g := ⟨a, m, 64, k⟩) (s := k81) (n := 900000) k81_ok ok rfl rfl rfl rfl (by decide)
  have hthere : there k81.kept.length (a : Int) (m : Int) = true := by
    rw [k81_len]
    exact decide_eq_true ⟨by omega, by omega, by omega, by omega⟩
  have C2 : Hid (∀ gd w2, Live w (fun _ => False) gd k81 w2 → Calls Tryz.prog 10 #[.pointer (some ⟨gd, 0, none⟩), .int .i64 (a : Int), .int .i64 (m : Int), .int .i64 (k : Int)] w2 fun e w' => ∃ gb, e = .returned (.tuple #[.pointer (some ⟨gb, 0, none⟩), .int .i64 0]) ∧ Live w (fun _ => False) gd (formD ⟨a, m, 64, k⟩ k81).2 w') := fun gd w2 l2 =>
    (lv_format w w2 _ gd k81 l2 a m k rfl (by decide) hthere ((mayH_iff m k).2 ⟨h3, h4, h5⟩) ⟨by decide, by decide, by decide⟩ f1).mono fun e w' hh => by
      obtain ⟨gb, rfl, l3, _⟩ := hh
      exact ⟨gb, rfl, l3.live⟩
  obtain ⟨s, hs⟩ : ∃ s, s = (formD ⟨a, m, 64, k⟩ k81).2 := ⟨_, rfl⟩
  rw [← hs] at C2 f3
  obtain ⟨e3, ok3⟩ := open_of_rest f3.rest
  have e3 : openG s a m = ⟨a, m, 64, k⟩ := e3
  have C3 : Hid (∀ gd w3, Live w (fun _ => False) gd s w3 → Calls Tryz.prog 21 #[.pointer (some ⟨gd, 0, none⟩), .int .i64 (a : Int), .int .i64 (m : Int)] w3 fun e w' => ∃ gb, e = .returned (.tuple #[.pointer (some ⟨gb, 0, none⟩), .int .i64 0]) ∧ Lv w (fun _ => False) gd s gb ⟨a, m, 64, k⟩ noCh w') := fun gd w3 l3 =>
    (lv_open w w3 _ gd s l3 a m f3.rest.on (by rw [← f3.rest.size]; show 64 ≤ 64; decide) f3.there (by rw [e3]; exact ok3)).mono fun e w' hh => by
      obtain ⟨gb, rfl, l4, _⟩ := hh
      rw [e3] at l4
      exact ⟨gb, rfl, l4⟩
  have C4 : Hid (∀ gd gb w4, Lv w (fun _ => False) gd s gb ⟨a, m, 64, k⟩ noCh w4 → Calls Tryz.prog 24 #[.pointer (some ⟨gb, 0, none⟩)] w4 fun e w' => e = .returned (.int .i64 (k : Int)) ∧ w' = w4) := fun gd gb w4 l4 => (lv_pages w w4 _ gd s gb _ noCh l4).mono fun e w' hh => ⟨hh.1, hh.2.symm⟩
  have C5 : Hid (∀ gd gb w4, Lv w (fun _ => False) gd s gb ⟨a, m, 64, k⟩ noCh w4 → Calls Tryz.prog 13 #[.pointer (some ⟨gb, 0, none⟩)] w4 fun e w' => e = .returned (.int .i64 (k : Int)) ∧ w' = w4) := fun gd gb w4 l4 => (lv_most w w4 _ gd s gb _ noCh l4).mono fun e w' hh => ⟨hh.1, hh.2.symm⟩
  have ew : IntKind.i64.wrap (60 - (a : Int)) = 60 - (a : Int) := IntWalk.i64_in _ (by omega)
  have ew2 : IntKind.i64.wrap (IntKind.i64.wrap (3 * (k : Int)) + 16) = 3 * (k : Int) + 16 := by rw [IntWalk.i64_in (3 * (k : Int)) (by omega), IntWalk.i64_in _ (by omega)]
  have i5 : 3 * (k : Int) + 16 ≤ (m : Int) := by omega
  clear hthere ok f1 f3 hs e3 ok3 h5
  by_cases h8 : 8 ≤ k
  · go_enter Tryz.func4, Tryz.ntmps4
    go_wp2_with fail
    refine CK.out.mono ?_
    rintro e w1 ⟨rfl, b1⟩
    have D1 := Lib.hid (C1.out w1 b1)
    clear b1 C1 CK
    go_wp2_with fail
    refine D1.out.mono ?_
    rintro e w2 ⟨gd, rfl, l2⟩
    have D2 := Lib.hid (C2.out gd w2 l2)
    clear l2 C2 D1
    go_wp2_with fail
    refine D2.out.mono ?_
    rintro e w3 ⟨gb, rfl, l3⟩
    have D3 := Lib.hid (C3.out gd w3 l3)
    clear l3 C3 D2
    go_wp2_with fail
    refine D3.out.mono ?_
    rintro e w4 ⟨gb2, rfl, l4⟩
    have D4 := Lib.hid (C4.out gd gb2 w4 l4)
    have D5 := Lib.hid (C5.out gd gb2 w4 l4)
    have R := Lib.hid l4.low
    clear l4 C4 C5 D3
    go_wp2_with fail
    refine D4.out.mono ?_
    rintro e w5 ⟨rfl, rfl⟩
    go_wp2_with fail
    refine D5.out.mono ?_
    rintro e w5 ⟨rfl, rfl⟩
    go_wp2_with fail
    refine D5.out.mono ?_
    rintro e w5 ⟨rfl, rfl⟩
    go_wp2
    go_ret
    exact ⟨rfl, R.out⟩
  · have d8 : decide ((8 : Int) ≤ (k : Int)) = false := decide_eq_false (by omega)
    clear h8
    go_enter Tryz.func4, Tryz.ntmps4
    go_wp2_with fail
    refine CK.out.mono ?_
    rintro e w1 ⟨rfl, b1⟩
    have D1 := Lib.hid (C1.out w1 b1)
    clear b1 C1 CK
    go_wp2_with fail
    refine D1.out.mono ?_
    rintro e w2 ⟨gd, rfl, l2⟩
    have D2 := Lib.hid (C2.out gd w2 l2)
    clear l2 C2 D1
    go_wp2_with fail
    refine D2.out.mono ?_
    rintro e w3 ⟨gb, rfl, l3⟩
    have D3 := Lib.hid (C3.out gd w3 l3)
    clear l3 C3 D2
    go_wp2_with fail
    refine D3.out.mono ?_
    rintro e w4 ⟨gb2, rfl, l4⟩
    have D4 := Lib.hid (C4.out gd gb2 w4 l4)
    have D5 := Lib.hid (C5.out gd gb2 w4 l4)
    have R := Lib.hid l4.low
    clear l4 C4 C5 D3
    go_wp2_with fail
    refine D4.out.mono ?_
    rintro e w5 ⟨rfl, rfl⟩
    go_wp2_with fail
    refine D5.out.mono ?_
    rintro e w5 ⟨rfl, rfl⟩
    go_wp2_with fail
    refine D5.out.mono ?_
    rintro e w5 ⟨rfl, rfl⟩
    go_wp2_with fail
    refine D5.out.mono ?_
    rintro e w5 ⟨rfl, rfl⟩
    go_wp2
    go_ret
    exact ⟨rfl, R.out⟩
end
theorem args_any (a n k : Int) (w : World) : Calls Tryz.prog 4 #[.int .i64 a, .int .i64 n, .int .i64 k] w fun e w' => e = .returned (.bool true) ∧ Below w.heap.size w w' := by
  by_cases h : 0 ≤ a ∧ 0 ≤ n ∧ a ≤ 60 ∧ n ≤ 60 - a ∧ 1 ≤ k ∧ k ≤ 1024 ∧ 3 * k + 16 ≤ n
  · obtain ⟨a', rfl⟩ : ∃ a' : Nat, a = (a' : Int) := ⟨a.toNat, by omega⟩
    obtain ⟨m, rfl⟩ : ∃ m : Nat, n = (m : Int) := ⟨n.toNat, by omega⟩
    obtain ⟨k', rfl⟩ : ∃ k' : Nat, k = (k' : Int) := ⟨k.toNat, by omega⟩
    exact args_yes w a' m k' (by omega) (by omega) (by omega) (by omega) (by omega)
  · exact args_no w a n k (by unfold argsNo; omega)
end Go.Proofs.YtnhojcldeloigaaGreat
