/-
  Package pages: Open, as its callers see it.
-/
import Derived.Test.YtnhojcldeloigaaGreatPagesG
namespace Go.Proofs.YtnhojcldeloigaaGreat
open Go.RowKit Go.Lib Go.Maps
set_option maxRecDepth 100000

theorem Tryz.enterOpen1 : ∀ args w, (callFunc 50 args).run Tryz.prog w = .ok (.enter 50 args) w := enters_of Tryz.func50 (by kernel_rfl) rfl
set_option maxHeartbeats 1000000 in
/-- The frame of Open: what its function leaves is what it answers. -/
theorem open_wrap (gd : Nat) (w : World) (a m : Int) (r : Int) (PR : Option Addr → World → Prop)
    (hin : ∀ w1, Only (fun _ => False) w w1 → w1.heap.size = w.heap.size + 5 → Has w1 w.heap.size 25 #[.pointer (some ⟨gd, 0, none⟩)] → Has w1 (w.heap.size + 1) 3 #[.int .i64 a] → Has w1 (w.heap.size + 2) 3 #[.int .i64 m] → Has w1 (w.heap.size + 3) 29 #[.pointer none] →
      Calls Tryz.prog 50 #[.pointer (some ⟨w.heap.size, 0, none⟩), .pointer (some ⟨w.heap.size + 1, 0, none⟩), .pointer (some ⟨w.heap.size + 2, 0, none⟩), .pointer (some ⟨w.heap.size + 3, 0, none⟩)] w1 fun e w' =>
        e = endsIn r ∧ ∃ v, Has w' (w.heap.size + 3) 29 #[.pointer v] ∧ PR v w' ∧ Only (fun i => i = w.heap.size + 3 ∨ w1.heap.size ≤ i) w1 w')
    (hk : ∀ v w1 w2, PR v w1 → Only (fun i => i = w.heap.size + 4) w1 w2 → PR v w2) :
    Calls Tryz.prog 21 #[.pointer (some ⟨gd, 0, none⟩), .int .i64 a, .int .i64 m] w fun e w' => ∃ v, e = .returned (.tuple #[.pointer v, .int .i64 r]) ∧ PR v w' ∧ Below w.heap.size w w' := by
  obtain ⟨W, hW⟩ : ∃ W, W = (((w.alloc (.cells #[.pointer (some ⟨gd, 0, none⟩)] 25)).alloc (.cells #[.int .i64 a] 3)).alloc (.cells #[.int .i64 m] 3)).alloc (.cells #[.pointer none] 29) := ⟨_, rfl⟩
  have sW : W.heap.size = w.heap.size + 4 := by rw [hW]; simp
  have kE : Only (fun _ => False) w (W.alloc errBox) := by rw [hW]; exact (((((Only.refl _ w).alloc _).alloc _).alloc _).alloc _).alloc _
  have sE : (W.alloc errBox).heap.size = w.heap.size + 5 := by simp [sW]
  have b0 : Has (W.alloc errBox) w.heap.size 25 #[.pointer (some ⟨gd, 0, none⟩)] := by
    rw [hW]
    exact ((((Has.new w _ _).alloc _).alloc _).alloc _).alloc _
  have b1 : Has (W.alloc errBox) (w.heap.size + 1) 3 #[.int .i64 a] := by
    rw [hW]
    have := ((((Has.new (w.alloc (.cells #[.pointer (some ⟨gd, 0, none⟩)] 25)) 3 #[.int .i64 a]).alloc (.cells #[.int .i64 m] 3)).alloc (.cells #[.pointer none] 29)).alloc errBox)
    simpa using this
  have b2 : Has (W.alloc errBox) (w.heap.size + 2) 3 #[.int .i64 m] := by
    rw [hW]
    have := (((Has.new ((w.alloc (.cells #[.pointer (some ⟨gd, 0, none⟩)] 25)).alloc (.cells #[.int .i64 a] 3)) 3 #[.int .i64 m]).alloc (.cells #[.pointer none] 29)).alloc errBox)
    simpa using this
  have b3 : Has (W.alloc errBox) (w.heap.size + 3) 29 #[.pointer none] := by
    rw [hW]
    have := ((Has.new (((w.alloc (.cells #[.pointer (some ⟨gd, 0, none⟩)] 25)).alloc (.cells #[.int .i64 a] 3)).alloc (.cells #[.int .i64 m] 3)) 29 #[.pointer none]).alloc errBox)
    simpa using this
  have C1 := hin _ kE sE b0 b1 b2 b3
  have C := Lib.hid (caught_any 50 _ Tryz.enterOpen1 W r (fun w' => ∃ v, Has w' (w.heap.size + 3) 29 #[.pointer v] ∧ PR v w' ∧ Only (fun i => i = w.heap.size + 3 ∨ (W.alloc errBox).heap.size ≤ i) (W.alloc errBox) w') (C1.mono fun e w' hh => ⟨hh.1, by
    obtain ⟨_, _, _, _, o⟩ := hh
    exact (Has.new W 26 #[.int .i64 0]).only o (fun h => by
      rcases h with h | h
      · omega
      · rw [sE] at h
        omega), hh.2⟩))
  have R : Hid (∀ w1 w', (∃ v, Has w1 (w.heap.size + 3) 29 #[.pointer v] ∧ PR v w1 ∧ Only (fun i => i = w.heap.size + 3 ∨ (W.alloc errBox).heap.size ≤ i) (W.alloc errBox) w1) → Only (fun i => i = W.heap.size) w1 w' → ∃ v, w'.cell? ⟨w.heap.size + 3, 0, none⟩ = some (.pointer v) ∧ PR v w' ∧ Below w.heap.size w w') := by
    rintro w1 w' ⟨v, q1, q2, q3⟩ k2
    refine ⟨v, (q1.only k2 (fun e => by omega)).cell 0, hk v w1 w' q2 (k2.mono (fun i _ e => by omega)), ?_⟩
    have := q3.size
    exact (((kE.below (B := w.heap.size) (Nat.le_refl _) (fun _ _ h => h)).trans (q3.below (by omega) (fun i hi h => by
      rcases h with h | h
      · omega
      · rw [sE] at h
        omega))).trans (k2.below (by omega) (fun i hi e => by omega)))
  rw [hW] at C R
  clear b0 b1 b2 b3 C1 kE sE sW hW hin hk
  go_enter Tryz.func21, Tryz.ntmps21
  go_wp2_with fail
  refine C.out.mono ?_
  rintro e w' ⟨rfl, w1, hd, k2⟩
  obtain ⟨v, cv, q2, q3⟩ := R.out w1 w' hd k2
  have R2 := Lib.hid q2
  have R3 := Lib.hid q3
  clear C R hd k2 q2 q3
  go_wp2
  go_ret2
  exact ⟨_, rfl, R2.out, R3.out⟩
section
variable (F E : Nat → Prop) (gd : Nat) (s : D) (w : World) (h : Dk w F E gd s)
include h
set_option maxHeartbeats 1000000 in
theorem open1_not (a m : Int) (p0 p1 p2 p3 : Nat) (ht : there s.kept.length a m = false) (b0 : Has w p0 25 #[.pointer (some ⟨gd, 0, none⟩)]) (b1 : Has w p1 3 #[.int .i64 a]) (b2 : Has w p2 3 #[.int .i64 m]) :
    Calls Tryz.prog 50 #[.pointer (some ⟨p0, 0, none⟩), .pointer (some ⟨p1, 0, none⟩), .pointer (some ⟨p2, 0, none⟩), .pointer (some ⟨p3, 0, none⟩)] w fun e w' => e = endsIn 1 ∧ Only (fun _ => False) w w' := by
  have C0 := mustbethere_any F E gd s w h a m
  rw [endsB_no ht] at C0
  have C0 := Lib.hid C0
  have c0 := b0.cell 0
  have c1 := b1.cell 0
  have c2 := b2.cell 0
  simp at c0 c1 c2
  clear h b0 b1 b2 ht
  go_enter Tryz.func50, Tryz.ntmps50
  go_wp2_with fail
  refine C0.out.mono ?_
  rintro e w1 ⟨rfl, n, rfl⟩
  go_wp2
  exact ⟨rfl, rfl, (Only.refl _ w).drewN n⟩

/-- Open finds the book that is there. -/
theorem open_yes (a m : Nat) (ho : s.off = false) (hz : 64 ≤ s.size) (ht : there s.kept.length (a : Int) (m : Int) = true) (hok : OpenOk s (openG s a m)) :
    Calls Tryz.prog 21 #[.pointer (some ⟨gd, 0, none⟩), .int .i64 (a : Int), .int .i64 (m : Int)] w fun e w' => ∃ gb, e = .returned (.tuple #[.pointer (some ⟨gb, 0, none⟩), .int .i64 0]) ∧ (∃ G, St w' F E G gd s gb (openG s a m) (fun _ => none) ∧ ∀ i, G i → w.heap.size ≤ i) ∧ Below w.heap.size w w' := by
  have hl := h.lt
  refine (open_wrap gd w a m 0 (fun v w' => ∃ gb, v = some ⟨gb, 0, none⟩ ∧ ∃ G, St w' F E G gd s gb (openG s a m) (fun _ => none) ∧ ∀ i, G i → w.heap.size + 5 ≤ i) (fun w1 k1 s1 b0 b1 b2 b3 => ?_) ?_).mono ?_
  · refine (open1_there F E gd s w1 (h.only k1 (fun _ _ h => h.elim)) a m _ _ _ _ ho hz ht b0 b1 b2 b3 ⟨fun hF => by have := hl.2.2.1 _ hF; omega, fun hE => by have := hl.2.2.2.1 _ hE; omega⟩).mono ?_
    rintro e w' ⟨r, rfl, ⟨rfl, _, gb, G, q1, q2, q3⟩ | ⟨rfl, hn, _⟩, q4⟩
    · exact ⟨rfl, _, q1, ⟨gb, rfl, G, q2, fun i hi => by have := q3 i hi; omega⟩, q4⟩
    · exact absurd hok hn
  · rintro v w1 w2 ⟨gb, rfl, G, q2, q3⟩ k
    refine ⟨gb, rfl, G, q2.only k (fun i _ e => ⟨fun hF => ?_, fun hE => ?_, fun hG => ?_⟩), q3⟩
    · have := hl.2.2.1 _ hF
      omega
    · have := hl.2.2.2.1 _ hE
      omega
    · have := q3 _ hG
      omega
  · rintro e w' ⟨v, rfl, ⟨gb, rfl, G, q2, q3⟩, q4⟩
    exact ⟨gb, rfl, ⟨G, q2, fun i hi => by have := q3 i hi; omega⟩, q4⟩
/-- There is none. -/
theorem open_form (a m : Nat) (ho : s.off = false) (hz : 64 ≤ s.size) (ht : there s.kept.length (a : Int) (m : Int) = true) (hok : ¬ OpenOk s (openG s a m)) :
    Calls Tryz.prog 21 #[.pointer (some ⟨gd, 0, none⟩), .int .i64 (a : Int), .int .i64 (m : Int)] w fun e w' => e = .returned (.tuple #[.pointer none, .int .i64 2]) ∧ Below w.heap.size w w' := by
  have hl := h.lt
  refine (open_wrap gd w a m 2 (fun v w' => v = none) (fun w1 k1 s1 b0 b1 b2 b3 => ?_) (fun _ _ _ h _ => h)).mono ?_
  · refine (open1_there F E gd s w1 (h.only k1 (fun _ _ h => h.elim)) a m _ _ _ _ ho hz ht b0 b1 b2 b3 ⟨fun hF => by have := hl.2.2.1 _ hF; omega, fun hE => by have := hl.2.2.2.1 _ hE; omega⟩).mono ?_
    rintro e w' ⟨r, rfl, ⟨rfl, hn, _⟩ | ⟨rfl, _, q1⟩, q4⟩
    · exact absurd hn hok
    · exact ⟨rfl, _, q1, rfl, q4⟩
  · rintro e w' ⟨v, rfl, rfl, q4⟩
    exact ⟨rfl, q4⟩
/-- The sectors are not all there. -/
theorem open_not (a m : Int) (ht : there s.kept.length a m = false) :
    Calls Tryz.prog 21 #[.pointer (some ⟨gd, 0, none⟩), .int .i64 a, .int .i64 m] w fun e w' => e = .returned (.tuple #[.pointer none, .int .i64 1]) ∧ Below w.heap.size w w' := by
  refine (open_wrap gd w a m 1 (fun v w' => v = none) (fun w1 k1 s1 b0 b1 b2 b3 => ?_) (fun _ _ _ h _ => h)).mono ?_
  · refine (open1_not F E gd s w1 (h.only k1 (fun _ _ h => h.elim)) a m _ _ _ _ ht b0 b1 b2).mono ?_
    rintro e w' ⟨rfl, k⟩
    exact ⟨rfl, _, b3.only k (fun h => h), rfl, k.mono (fun _ _ h => h.elim)⟩
  · rintro e w' ⟨v, rfl, rfl, q4⟩
    exact ⟨rfl, q4⟩
end
end Go.Proofs.YtnhojcldeloigaaGreat
