/-
  Package pages: Commit, as its callers see it; a disk that is off.
-/
import Derived.Test.YtnhojcldeloigaaGreatPagesN
namespace Go.Proofs.YtnhojcldeloigaaGreat
open Go.RowKit Go.Lib Go.Maps
set_option maxRecDepth 100000

theorem Tryz.enterCommit1 : ∀ args w, (callFunc 46 args).run Tryz.prog w = .ok (.enter 46 args) w := enters_of Tryz.func46 (by kernel_rfl) rfl
def P22 : Ending := .panicked [{ v := .iface 26 (.int .i64 22), recovered := false }]
theorem endsIn_22 : endsIn 22 = P22 := endsIn_no (by decide)
section
variable (F E G : Nat → Prop) (gd gb : Nat) (s : D) (g : BG) (ch : Nat → Option (List UInt8)) (w : World) (h : St w F E G gd s gb g ch)
include h
set_option maxHeartbeats 1000000 in
theorem pgread_off (p : Nat) (hp : g.at_ + p ≤ 1000000) (ho : s.off = true) : Calls Tryz.prog 41 #[.pointer (some ⟨gb, 0, none⟩), .int .i64 (p : Int)] w fun e w' => e = P22 ∧ Below w.heap.size w w' := by
  have hr : s.read ((g.at_ : Int) + (p : Int)) = (22, []) := by rw [D.read, if_pos ho]
  have C0 := read_any F E gd ((g.at_ : Int) + (p : Int)) s w.drew (h.dk.only (S := fun _ => False) ((Only.refl _ w).drew) (fun _ _ h => h.elim))
  rw [hr] at C0
  have C : Hid (Calls Tryz.prog 71 #[.pointer (some ⟨gd, 0, none⟩), .int .i64 ((g.at_ : Int) + (p : Int))] w.drew fun e w' => ∃ v, e = .returned (.tuple #[v, .int .i64 22]) ∧ Below w.heap.size w w') := C0.mono fun e w' hh => by
    obtain ⟨v, rfl, q1, q2⟩ := hh
    exact ⟨v, rfl, ⟨q2.os, q2.tape, q2.output, q2.size, q2.block⟩⟩
  clear C0 hr
  obtain ⟨gm, h⟩ := h.bk
  obtain ⟨c0, c1, _, _, _, _⟩ := h.cells
  have e1 : IntKind.i64.wrap ((g.at_ : Int) + (p : Int)) = (g.at_ : Int) + (p : Int) := IntWalk.i64_in _ (by omega)
  clear h ho
  go_enter Tryz.func41, Tryz.ntmps41
  go_upto_region 1 with fail
  go_region_with (first | (go_at_call 71; refine C.out.mono ?_; rintro e w' ⟨v, rfl, q2⟩; have Q2 := Lib.hid q2; clear q2))
  all_goals
    go_wp2_with fail
    refine (must_no 22 _).mono ?_
    rintro e w2 ⟨rfl, rfl⟩
    go_wp2
    exact ⟨rfl, rfl, Q2.out⟩
set_option maxHeartbeats 400000 in
theorem pgholds_off (ho : s.off = true) : Calls Tryz.prog 53 #[.pointer (some ⟨gb, 0, none⟩)] w fun e w' => e = P22 ∧ Below w.heap.size w w' := by
  have C := Lib.hid (pgread_off F E G gd gb s g ch w h 0 (by have := h.ok.fit; have := h.ok.most; omega) ho)
  clear h ho
  go_enter Tryz.func53, Tryz.ntmps53
  go_wp2_with fail
  refine C.out.mono ?_
  rintro e w2 ⟨rfl, b⟩
  have B := Lib.hid b
  clear b
  unfold P22
  go_wp2
  exact ⟨rfl, rfl, B.out⟩
set_option maxHeartbeats 400000 in
theorem pgstore_off (ho : s.off = true) : Calls Tryz.prog 47 #[.pointer (some ⟨gb, 0, none⟩)] w fun e w' => e = P22 ∧ Below w.heap.size w w' := by
  have C := Lib.hid (pgholds_off F E G gd gb s g ch w h ho)
  clear h ho
  go_enter Tryz.func47, Tryz.ntmps47
  go_wp2_with fail
  refine C.out.mono ?_
  rintro e w2 ⟨rfl, b⟩
  have B := Lib.hid b
  clear b
  unfold P22
  go_wp2
  exact ⟨rfl, rfl, B.out⟩
theorem St.step_below {w' : World} (k : Below w.heap.size w w') : StStep w F E G gd s gb g ch w' :=
  ⟨F, E, G, h.below k, fun _ h => .inl h, fun _ h => .inl h, fun _ h => .inl h, (Only.of_below k).mono (fun i hi h => by have h : w.heap.size ≤ i := h; omega)⟩
set_option maxHeartbeats 1000000 in
theorem commit1_off (bx : Nat) (hbx : Has w bx 29 #[.pointer (some ⟨gb, 0, none⟩)]) (hs : s.Small) (ho : s.off = true) :
    Calls Tryz.prog 46 #[.pointer (some ⟨bx, 0, none⟩)] w fun e w' => e = endsIn 22 ∧ StStep w F E G gd s gb g ch w' := by
  obtain ⟨gm, hb⟩ := h.bk
  have c5 := hb.cells.2.2.2.2.2
  obtain ⟨⟨n, D0, hown, hh, _⟩, hlt⟩ := hb.ch
  have hrun := fun ty => hown.len Tryz.underlying65 ty
  have cb := hbx.cell 0
  have hk2 : Maps.size D0 ≤ 1024 := by
    rw [size_keys hown, ← (keys_perm hown hh hlt).length_eq]
    have := keysOf_len ch g.k
    have := h.ok.k2
    simp [ints]
    omega
  have CS : Hid (Calls Tryz.prog 47 #[.pointer (some ⟨gb, 0, none⟩)] w fun e w' => e = P22 ∧ StStep w F E G gd s gb g ch w') := (pgstore_off F E G gd gb s g ch w h ho).mono fun e w' hh => ⟨hh.1, h.step_below _ _ _ _ _ _ _ _ _ hh.2⟩
  have CY : Hid (Calls Tryz.prog 48 #[.pointer (some ⟨gb, 0, none⟩)] w fun e w' => e = P22 ∧ StStep w F E G gd s gb g ch w') := by
    have := pgsync_any F E G gd gb s g ch w h hs
    unfold D.sync at this
    rw [if_pos ho] at this
    rwa [endsIn_22] at this
  rw [endsIn_22]
  generalize Maps.size D0 = m at hrun hk2
  clear h hb hown hh hlt hbx ho hs
  cases m with
  | zero =>
    clear CS
    go_enter Tryz.func46, Tryz.ntmps46
    go_wp2_with fail
    refine CY.out.mono ?_
    rintro e w2 ⟨rfl, st⟩
    have ST := Lib.hid st
    clear st
    unfold P22
    go_wp2
    exact ⟨rfl, rfl, ST.out⟩
  | succ m =>
    have i1 : (0 : Int) < ((m + 1 : Nat) : Int) := by omega
    obtain ⟨m', hm'⟩ : ∃ m', m' = m + 1 := ⟨_, rfl⟩
    rw [← hm'] at hrun i1
    clear CY hm'
    go_enter Tryz.func46, Tryz.ntmps46
    go_wp2_with fail
    refine CS.out.mono ?_
    rintro e w2 ⟨rfl, st⟩
    have ST := Lib.hid st
    clear st
    unfold P22
    go_wp2
    exact ⟨rfl, rfl, ST.out⟩
set_option maxHeartbeats 1000000 in
theorem commit_wrap (r : Int) (s' : D) (ch' : Nat → Option (List UInt8)) (hin : ∀ w1, Only (fun _ => False) w w1 → Has w1 w.heap.size 29 #[.pointer (some ⟨gb, 0, none⟩)] →
      Calls Tryz.prog 46 #[.pointer (some ⟨w.heap.size, 0, none⟩)] w1 fun e w' => e = endsIn r ∧ StStep w1 F E G gd s' gb g ch' w') :
    Calls Tryz.prog 15 #[.pointer (some ⟨gb, 0, none⟩)] w fun e w' => e = .returned (.int .i64 r) ∧ StStep w F E G gd s' gb g ch' w' := by
  obtain ⟨lF, lE, lG⟩ := h.lts
  obtain ⟨W, hW⟩ : ∃ W, W = w.alloc (.cells #[.pointer (some ⟨gb, 0, none⟩)] 29) := ⟨_, rfl⟩
  have sW : W.heap.size = w.heap.size + 1 := by rw [hW]; simp
  have kE : Only (fun _ => False) w (W.alloc errBox) := by rw [hW]; exact ((Only.refl _ w).alloc _).alloc _
  have kW : Only (fun _ => False) w W := by rw [hW]; exact (Only.refl _ w).alloc _
  have sE : (W.alloc errBox).heap.size = w.heap.size + 2 := by simp [sW]
  have b0 : Has (W.alloc errBox) w.heap.size 29 #[.pointer (some ⟨gb, 0, none⟩)] := by
    rw [hW]
    exact (Has.new w _ _).alloc _
  have C1 := hin _ kE b0
  obtain ⟨gm, hb⟩ := (h.new kW).bk
  have c0 := hb.cells.1
  have C := Lib.hid (caught_any 46 _ Tryz.enterCommit1 W r (StStep (W.alloc errBox) F E G gd s' gb g ch') (C1.mono fun e w' hh => ⟨hh.1, by
    obtain ⟨_, _, _, _, _, _, _, o⟩ := hh.2
    exact (Has.new W 26 #[.int .i64 0]).only o (fun h => by
      rcases h with h | h
      · have := lF _ h
        omega
      · have := lG _ h
        omega), hh.2⟩))
  have R : Hid (∀ w1 w', StStep (W.alloc errBox) F E G gd s' gb g ch' w1 → Only (fun i => i = W.heap.size) w1 w' → StStep w F E G gd s' gb g ch' w') := fun w1 w' hd k2 => hd.caught2 kE lF lE lG ⟨by omega, by omega⟩ k2
  rw [hW] at C R c0
  clear b0 C1 kE kW sE sW hW h hb hin lF lE lG
  go_enter Tryz.func15, Tryz.ntmps15
  go_wp2_with fail
  refine C.out.mono ?_
  rintro e w' ⟨rfl, w1, hd, k2⟩
  have R2 := Lib.hid (R.out w1 w' hd k2)
  clear C R hd k2
  go_wp2
  go_ret
  exact ⟨rfl, R2.out⟩
theorem bookcommit_on (l : Nat) (sl : List UInt8) (P : Nat → List UInt8) (hr : Rep g s.seen l sl P) (ho : s.off = false) (hroom : s.Room 1100) (hch : ∀ p bs, ch p = some bs → bs.length = g.z - 16) :
    Calls Tryz.prog 15 #[.pointer (some ⟨gb, 0, none⟩)] w fun e w' => e = .returned (.int .i64 (commitD g s l sl ch).1) ∧ StStep w F E G gd (commitD g s l sl ch).2 gb g (leftCh (commitD g s l sl ch).1 ch) w' :=
  commit_wrap F E G gd gb s g ch w h _ _ _ fun w1 k b => by
    obtain ⟨lF, lE, lG⟩ := h.lts
    refine commit1_any F E G gd gb s g ch w1 (h.new k) l sl P _ b ⟨fun hF => ?_, fun hG => ?_⟩ hr ho hroom hch
    · have := lF _ hF
      omega
    · have := lG _ hG
      omega
theorem bookcommit_off (hs : s.Small) (ho : s.off = true) :
    Calls Tryz.prog 15 #[.pointer (some ⟨gb, 0, none⟩)] w fun e w' => e = .returned (.int .i64 22) ∧ StStep w F E G gd s gb g ch w' :=
  commit_wrap F E G gd gb s g ch w h _ _ _ fun w1 k b => commit1_off F E G gd gb s g ch w1 (h.new k) _ b hs ho
end
end Go.Proofs.YtnhojcldeloigaaGreat
