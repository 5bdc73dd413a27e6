/-
  Package pages: Format, as its callers see it.
-/
import Derived.Test.YtnhojcldeloigaaGreatPagesR
namespace Go.Proofs.YtnhojcldeloigaaGreat
open Go.RowKit Go.Lib Go.Maps
set_option maxRecDepth 100000
set_option maxHeartbeats 1000000 in
/-- The frame of Format: what its function leaves is what it answers. -/
theorem format_wrap (gd : Nat) (w : World) (a m k : Int) (r : Int) (S : Nat → Prop) (hS : ∀ i, S i → i < w.heap.size) (PR : Option Addr → World → Prop)
    (hin : ∀ w1, Only (fun _ => False) w w1 → w1.heap.size = w.heap.size + 6 → Has w1 w.heap.size 25 #[.pointer (some ⟨gd, 0, none⟩)] → Has w1 (w.heap.size + 1) 3 #[.int .i64 a] → Has w1 (w.heap.size + 2) 3 #[.int .i64 m] → Has w1 (w.heap.size + 3) 3 #[.int .i64 k] → Has w1 (w.heap.size + 4) 29 #[.pointer none] →
      Calls Tryz.prog 33 #[.pointer (some ⟨w.heap.size, 0, none⟩), .pointer (some ⟨w.heap.size + 1, 0, none⟩), .pointer (some ⟨w.heap.size + 2, 0, none⟩), .pointer (some ⟨w.heap.size + 3, 0, none⟩), .pointer (some ⟨w.heap.size + 4, 0, none⟩)] w1 fun e w' =>
        e = endsIn r ∧ ∃ v, Has w' (w.heap.size + 4) 29 #[.pointer v] ∧ PR v w' ∧ Only (fun i => S i ∨ i = w.heap.size + 4 ∨ w1.heap.size ≤ i) w1 w')
    (hk : ∀ v w1 w2, PR v w1 → Only (fun i => i = w.heap.size + 5) w1 w2 → PR v w2) :
    Calls Tryz.prog 10 #[.pointer (some ⟨gd, 0, none⟩), .int .i64 a, .int .i64 m, .int .i64 k] w fun e w' => ∃ v, e = .returned (.tuple #[.pointer v, .int .i64 r]) ∧ PR v w' ∧ Only S w w' := by
  obtain ⟨W, hW⟩ : ∃ W, W = ((((w.alloc (.cells #[.pointer (some ⟨gd, 0, none⟩)] 25)).alloc (.cells #[.int .i64 a] 3)).alloc (.cells #[.int .i64 m] 3)).alloc (.cells #[.int .i64 k] 3)).alloc (.cells #[.pointer none] 29) := ⟨_, rfl⟩
  have sW : W.heap.size = w.heap.size + 5 := by rw [hW]; simp
  have kE : Only (fun _ => False) w (W.alloc errBox) := by rw [hW]; exact ((((((Only.refl _ w).alloc _).alloc _).alloc _).alloc _).alloc _).alloc _
  have sE : (W.alloc errBox).heap.size = w.heap.size + 6 := by simp [sW]
  have b0 : Has (W.alloc errBox) w.heap.size 25 #[.pointer (some ⟨gd, 0, none⟩)] := by
    rw [hW]
    exact (((((Has.new w _ _).alloc _).alloc _).alloc _).alloc _).alloc _
  have b1 : Has (W.alloc errBox) (w.heap.size + 1) 3 #[.int .i64 a] := by
    rw [hW]
    have := (((((Has.new (w.alloc (.cells #[.pointer (some ⟨gd, 0, none⟩)] 25)) 3 #[.int .i64 a]).alloc (.cells #[.int .i64 m] 3)).alloc (.cells #[.int .i64 k] 3)).alloc (.cells #[.pointer none] 29)).alloc errBox)
    simpa using this
  have b2 : Has (W.alloc errBox) (w.heap.size + 2) 3 #[.int .i64 m] := by
    rw [hW]
    have := ((((Has.new ((w.alloc (.cells #[.pointer (some ⟨gd, 0, none⟩)] 25)).alloc (.cells #[.int .i64 a] 3)) 3 #[.int .i64 m]).alloc (.cells #[.int .i64 k] 3)).alloc (.cells #[.pointer none] 29)).alloc errBox)
    simpa using this
  have b3 : Has (W.alloc errBox) (w.heap.size + 3) 3 #[.int .i64 k] := by
    rw [hW]
    have := (((Has.new (((w.alloc (.cells #[.pointer (some ⟨gd, 0, none⟩)] 25)).alloc (.cells #[.int .i64 a] 3)).alloc (.cells #[.int .i64 m] 3)) 3 #[.int .i64 k]).alloc (.cells #[.pointer none] 29)).alloc errBox)
    simpa using this
  have b4 : Has (W.alloc errBox) (w.heap.size + 4) 29 #[.pointer none] := by
    rw [hW]
    have := ((Has.new ((((w.alloc (.cells #[.pointer (some ⟨gd, 0, none⟩)] 25)).alloc (.cells #[.int .i64 a] 3)).alloc (.cells #[.int .i64 m] 3)).alloc (.cells #[.int .i64 k] 3)) 29 #[.pointer none]).alloc errBox)
    simpa using this
  have C1 := hin _ kE sE b0 b1 b2 b3 b4
  have C := Lib.hid (caught_any 33 _ Tryz.enterFormat1 W r (fun w' => ∃ v, Has w' (w.heap.size + 4) 29 #[.pointer v] ∧ PR v w' ∧ Only (fun i => S i ∨ i = w.heap.size + 4 ∨ (W.alloc errBox).heap.size ≤ i) (W.alloc errBox) w') (C1.mono fun e w' hh => ⟨hh.1, by
    obtain ⟨_, _, _, _, o⟩ := hh
    exact (Has.new W 26 #[.int .i64 0]).only o (fun h => by
      rcases h with h | h | h
      · have := hS _ h
        omega
      · omega
      · rw [sE] at h
        omega), hh.2⟩))
  have R : Hid (∀ w1 w', (∃ v, Has w1 (w.heap.size + 4) 29 #[.pointer v] ∧ PR v w1 ∧ Only (fun i => S i ∨ i = w.heap.size + 4 ∨ (W.alloc errBox).heap.size ≤ i) (W.alloc errBox) w1) → Only (fun i => i = W.heap.size) w1 w' → ∃ v, w'.cell? ⟨w.heap.size + 4, 0, none⟩ = some (.pointer v) ∧ PR v w' ∧ Only S w w') := by
    rintro w1 w' ⟨v, q1, q2, q3⟩ k2
    refine ⟨v, (q1.only k2 (fun e => by omega)).cell 0, hk v w1 w' q2 (k2.mono (fun i _ e => by omega)), ?_⟩
    refine ((kE.mono (T := S) (fun _ _ h => h.elim)).trans q3 (fun i hi h => ?_)).trans k2 (fun i hi e => by omega)
    rcases h with h | h | h
    · exact h
    · omega
    · rw [sE] at h
      omega
  rw [hW] at C R
  clear b0 b1 b2 b3 b4 C1 kE sE sW hW hin hk hS
  go_enter Tryz.func10, Tryz.ntmps10
  go_wp2_with fail
  refine C.out.mono ?_
  rintro e w' ⟨rfl, w1, hd, k2⟩
  obtain ⟨v, cv, q2, q3⟩ := R.out w1 w' hd k2
  have R2 := Lib.hid q2
  have R3 := Lib.hid q3
  clear C R hd k2 q2 q3
  go_wp2
  go_ret2
  exact ⟨_, rfl, R2.out, R3.out⟩
section
variable (F E : Nat → Prop) (gd : Nat) (s : D) (w : World) (h : Dk w F E gd s)
include h
set_option maxHeartbeats 1000000 in
theorem format1_not (a m k : Int) (p0 p1 p2 p3 p4 : Nat) (hno : there s.kept.length a m = false ∨ mayH m k = false) (b0 : Has w p0 25 #[.pointer (some ⟨gd, 0, none⟩)]) (b1 : Has w p1 3 #[.int .i64 a]) (b2 : Has w p2 3 #[.int .i64 m]) (b3 : Has w p3 3 #[.int .i64 k]) :
    Calls Tryz.prog 33 #[.pointer (some ⟨p0, 0, none⟩), .pointer (some ⟨p1, 0, none⟩), .pointer (some ⟨p2, 0, none⟩), .pointer (some ⟨p3, 0, none⟩), .pointer (some ⟨p4, 0, none⟩)] w fun e w' => e = endsIn 1 ∧ Only (fun _ => False) w w' := by
  have C0 := mustbethere_any F E gd s w h a m
  have c0 := b0.cell 0
  have c1 := b1.cell 0
  have c2 := b2.cell 0
  have c3 := b3.cell 0
  have HB : Hid (∀ n, (w.drewN n).cell? ⟨p2, 0, none⟩ = some (.int .i64 m) ∧ (w.drewN n).cell? ⟨p3, 0, none⟩ = some (.int .i64 k)) := fun n => ⟨b2.cell 0, b3.cell 0⟩
  simp at c0 c1 c2 c3
  cases ht : there s.kept.length a m with
  | false =>
    rw [endsB_no ht] at C0
    have C0 := Lib.hid C0
    clear h b0 b1 b2 b3 ht hno HB
    go_enter Tryz.func33, Tryz.ntmps33
    go_wp2_with fail
    refine C0.out.mono ?_
    rintro e w1 ⟨rfl, n, rfl⟩
    go_wp2
    exact ⟨rfl, rfl, (Only.refl _ w).drewN n⟩
  | true =>
    have hmay : mayH m k = false := by
      rcases hno with hh | hh
      · rw [ht] at hh
        cases hh
      · exact hh
    rw [endsB_yes ht] at C0
    have C0 := Lib.hid C0
    have CM : Hid (∀ W, Calls Tryz.prog 36 #[.int .i64 m, .int .i64 k] W fun e w' => e = .returned (.bool false) ∧ w' = W) := fun W => (mayhave_any m k W).mono fun e w' hh => ⟨by rw [hh.1, hmay], hh.2.symm⟩
    clear h b0 b1 b2 b3 ht hno hmay
    go_enter Tryz.func33, Tryz.ntmps33
    go_wp2_with fail
    refine C0.out.mono ?_
    rintro e w1 ⟨rfl, n, rfl⟩
    obtain ⟨d2, d3⟩ := HB.out n
    go_wp2_with fail
    refine (CM.out _).mono ?_
    rintro e w1 ⟨rfl, rfl⟩
    go_wp2_with fail
    refine (must_no 1 _).mono ?_
    rintro e w1 ⟨rfl, rfl⟩
    go_wp2
    exact ⟨rfl, rfl, (Only.refl _ w).drewN n⟩
/-- A book is made. -/
theorem format_yes (a m k : Nat) (ho : s.off = false) (hz : 64 ≤ s.size) (ht : there s.kept.length (a : Int) (m : Int) = true) (hmay : mayH (m : Int) (k : Int) = true) (hroom : s.Room 10) (hT : (formD ⟨a, m, s.size, k⟩ s).1 = 0) :
    Calls Tryz.prog 10 #[.pointer (some ⟨gd, 0, none⟩), .int .i64 (a : Int), .int .i64 (m : Int), .int .i64 (k : Int)] w fun e w' => ∃ gb, e = .returned (.tuple #[.pointer (some ⟨gb, 0, none⟩), .int .i64 0]) ∧
      (∃ F' E' G, St w' F' E' G gd (formD ⟨a, m, s.size, k⟩ s).2 gb ⟨a, m, s.size, k⟩ noCh ∧ (∀ i, F' i → F i ∨ w.heap.size ≤ i) ∧ (∀ i, E' i → E i ∨ w.heap.size ≤ i) ∧ ∀ i, G i → w.heap.size ≤ i) ∧ Only F w w' := by
  have hl := h.lt
  refine (format_wrap gd w a m k 0 F hl.2.2.1 (fun v w' => ∃ gb, v = some ⟨gb, 0, none⟩ ∧ ∃ F' E' G, St w' F' E' G gd (formD ⟨a, m, s.size, k⟩ s).2 gb ⟨a, m, s.size, k⟩ noCh ∧ (∀ i, F' i → F i ∨ w.heap.size + 6 ≤ i) ∧ (∀ i, E' i → E i ∨ w.heap.size + 6 ≤ i) ∧ ∀ i, G i → w.heap.size + 6 ≤ i) (fun w1 k1 s1 b0 b1 b2 b3 b4 => ?_) ?_).mono ?_
  · refine (format1_yes F E gd s w1 (h.only k1 (fun _ _ h => h.elim)) a m k _ _ _ _ _ ho hz ht hmay hroom hT b0 b1 b2 b3 b4 ⟨fun hF => by have := hl.2.2.1 _ hF; omega, fun hE => by have := hl.2.2.2.1 _ hE; omega⟩).mono ?_
    rintro e w' ⟨rfl, gb, F', E', G, q1, q2, q3, q4, q5, q6⟩
    exact ⟨rfl, _, q1, ⟨gb, rfl, F', E', G, q2, fun i hi => (q3 i hi).imp id (fun h => by omega), fun i hi => (q4 i hi).imp id (fun h => by omega), fun i hi => by have := q5 i hi; omega⟩, q6⟩
  · rintro v w1 w2 ⟨gb, rfl, F', E', G, q2, q3, q4, q5⟩ k
    refine ⟨gb, rfl, F', E', G, q2.only k (fun i _ e => ⟨fun hF => ?_, fun hE => ?_, fun hG => ?_⟩), q3, q4, q5⟩
    · rcases q3 _ hF with h | h
      · have := hl.2.2.1 _ h
        omega
      · omega
    · rcases q4 _ hE with h | h
      · have := hl.2.2.2.1 _ h
        omega
      · omega
    · have := q5 _ hG
      omega
  · rintro e w' ⟨v, rfl, ⟨gb, rfl, F', E', G, q2, q3, q4, q5⟩, q6⟩
    exact ⟨gb, rfl, ⟨F', E', G, q2, fun i hi => (q3 i hi).imp id (fun h => by omega), fun i hi => (q4 i hi).imp id (fun h => by omega), fun i hi => by have := q5 i hi; omega⟩, q6⟩
/-- None is. -/
theorem format_not (a m k : Int) (hno : there s.kept.length a m = false ∨ mayH m k = false) :
    Calls Tryz.prog 10 #[.pointer (some ⟨gd, 0, none⟩), .int .i64 a, .int .i64 m, .int .i64 k] w fun e w' => e = .returned (.tuple #[.pointer none, .int .i64 1]) ∧ Only (fun _ => False) w w' := by
  refine (format_wrap gd w a m k 1 (fun _ => False) (fun _ h => h.elim) (fun v w' => v = none) (fun w1 k1 s1 b0 b1 b2 b3 b4 => ?_) (fun _ _ _ h _ => h)).mono ?_
  · refine (format1_not F E gd s w1 (h.only k1 (fun _ _ h => h.elim)) a m k _ _ _ _ _ hno b0 b1 b2 b3).mono ?_
    rintro e w' ⟨rfl, k⟩
    exact ⟨rfl, _, b4.only k (fun h => h), rfl, k.mono (fun _ _ h => h.elim)⟩
  · rintro e w' ⟨v, rfl, rfl, q4⟩
    exact ⟨rfl, q4⟩
end
end Go.Proofs.YtnhojcldeloigaaGreat
