/-
  Package stat: take: the next record of an In.
-/
import Derived.Test.YtepiifbleoimkaaDoorStatE
namespace Go.Proofs.YtepiifbleoimkaaDoor
open Go.RowKit
set_option maxRecDepth 100000

/-- What the next record's taking leaves. -/
def TakeRec (w : World) (lo g : Nat) (r : Except Int (S11 × List UInt8)) (e : Ending) (w' : World) : Prop :=
  match r with
  | .ok (s, rest) => e = .returned s.val ∧ InAt w' lo g rest 0 ∧ Only (fun i => i = g) w w'
  | .error er => e = .panicked [{ v := .iface 36 (.int .i64 er), recovered := false }] ∧ Only (fun i => i = g) w w'

set_option maxHeartbeats 1000000 in
theorem stattake_any (lo g : Nat) (bs : List UInt8) (w : World) (hI : InAt w lo g bs 0) (hT : Tabs w) (hg : 1 < g ∧ 2 < g) (hb : bs.length ≤ 100000) :
    Calls Tryd.prog 91 #[.pointer (some ⟨g, 0, none⟩)] w (TakeRec w lo g (firstOf bs)) := by
  have hlt := takeSt2_lt bs 0
  have hl1 := rawSt_len ((takeSt 2 bs 0).1 : Int) (takeSt 2 bs 0).2.1 (takeSt 2 bs 0).2.2
  have hts : tst bs 0 = rawSt ((takeSt 2 bs 0).1 : Int) (takeSt 2 bs 0).2.1 (takeSt 2 bs 0).2.2 := rfl
  have hf : firstOf bs = if (tst bs 0).2.2 ≠ 0 then .error 4 else match recOf (tst bs 0).1 with
    | none => .error 2
    | some s => .ok (s, (tst bs 0).2.1) := rfl
  have hgl := hI.lt
  have k0 : Only (fun _ => False) w (w.alloc (.cells S11.zero.cells 31)) := (Only.refl _ w).alloc _
  have r0 : Has (w.alloc (.cells S11.zero.cells 31)) w.heap.size 31 S11.zero.cells := Has.new _ _ _
  have c1 := take_any lo g 2 bs 0 (w.alloc (.cells S11.zero.cells 31)) (hI.only k0 (fun _ _ _ h => h))
  have C1 : Hid (Calls Tryd.prog 54 #[.pointer (some ⟨g, 0, none⟩), .int .i64 2] (w.alloc (.cells S11.zero.cells 31)) (fun e w' => e = .returned (.int .u64 (takeSt 2 bs 0).1) ∧ InAt w' lo g (takeSt 2 bs 0).2.1 (takeSt 2 bs 0).2.2 ∧ Only (fun i => i = g) w w' ∧ Has w' w.heap.size 31 S11.zero.cells)) :=
    Lib.hid (c1.mono (by
      rintro e w' ⟨he, i1, f1⟩
      exact ⟨he, i1, (k0.mono (fun _ _ h => h.elim)).trans f1 (fun _ _ h => h), r0.only f1 (by omega)⟩))
  generalize takeSt 2 bs 0 = s1 at C1 hlt hl1 hts
  obtain ⟨n, bs1, er1⟩ := s1
  simp only at hlt hl1 hts C1
  rw [← hts] at hl1
  have hwu : IntKind.i64.wrap (n : Int) = (n : Int) := IntWalk.i64_in _ (by omega)
  have Hts := Lib.hid hts
  have HF := Lib.hid hf
  have HT := Lib.hid (fun w' (k : Only (fun i => i = g) w w') => hT.only k (by omega) (by omega))
  clear hI hT hts hf k0 r0 c1
  unfold S11.zero S11.cells at C1
  go_enter Tryd.func91, Tryd.ntmps91
  go_wp2_with fail
  refine C1.out.mono ?_
  rintro e w1 ⟨rfl, i1, k1, r1⟩
  have C2 := Lib.hid (raw_any lo g (n : Int) bs1 er1 w1 i1 (by omega))
  rw [← Hts.out] at C2
  have K1 := Lib.hid k1
  have R1 : Hid (Has w1 w.heap.size 31 S11.zero.cells) := r1
  clear i1 k1 r1 C1
  go_wp2_with fail
  refine C2.out.mono ?_
  rintro e w2 ⟨u, rfl, ow, i2, k2⟩
  have K2 : Hid (Only (fun i => i = g) w w2) := K1.out.trans k2 (fun _ _ h => h)
  have R2 := Lib.hid (R1.out.only k2 (by omega))
  have I2 := Lib.hid i2
  have C3 := Lib.hid (err_any lo g _ _ w2 i2)
  have C4 := Lib.hid (record_any u (tst bs 0).1 _ _ w2 (owns_SlIs ow) (Nat.le_refl _) (by omega) (HT.out _ K2.out))
  clear ow i2 k2 K1 R1 C2 HT Hts
  generalize tst bs 0 = st at C3 C4 I2 HF hl1
  obtain ⟨x, bs2, er2⟩ := st
  simp only at C3 C4 I2 HF hl1
  go_wp2_with fail
  refine C3.out.mono ?_
  rintro e w' ⟨rfl, rfl⟩
  clear C3
  by_cases he : er2 = 0
  · subst he
    go_wp2_with fail
    refine (must_yes 4 w2).mono ?_
    rintro e w' ⟨rfl, rfl⟩
    go_wp2_with fail
    refine C4.out.mono ?_
    intro e w3 hst
    cases hr : recOf x with
    | none =>
      rw [hr] at hst
      obtain ⟨rfl, b3⟩ := hst
      have R : Hid (TakeRec w lo g (firstOf bs) (.panicked [{ v := .iface 36 (.int .i64 2), recovered := false }]) w3) := by
        rw [HF.out, if_neg (by simp), hr]
        exact ⟨rfl, K2.out.trans (Only.of_below b3) (fun i hi h => by have := K2.out.size; omega)⟩
      clear C4 b3 hr HF K2 R2 I2
      go_wp2
      exact ⟨rfl, R.out⟩
    | some s =>
      rw [hr] at hst
      obtain ⟨rfl, b3⟩ := hst
      have K3 : Hid (Only (fun i => i = g) w w3) := K2.out.trans (Only.of_below b3) (fun i hi h => by have := K2.out.size; omega)
      have R3 := Lib.hid (R2.out.only (Only.of_below b3) (by have := R2.out.lt; omega))
      have I3 := Lib.hid (I2.out.only (Only.of_below b3) (fun i _ hi h => by have := I2.out.lt; omega))
      have HF3 : Hid (firstOf bs = .ok (s, bs2)) := Lib.hid (by rw [HF.out, if_neg (by simp), hr])
      obtain ⟨⟨x0, x1, x2, x3, x4⟩, ⟨x5, x6, x7, x8⟩, ⟨x9, x10, x11, x12⟩⟩ := R3.out.cells13
      obtain ⟨⟨y0, y1, y2, y3, y4⟩, ⟨y5, y6, y7, y8⟩, ⟨y9, y10, y11, y12⟩⟩ := R3.out.frozen13
      clear C4 b3 hr HF K2 R2 I2
      unfold S11.val S11.cells
      go_wp2_with fail
      refine bodyPost_ret (results_cell_row rfl _ _ w.heap.size 31 _ (0, 0) _ rfl (has_set13 R3.out s) Tryd.underlying31 rfl Tryd.statSize13) rfl ?_
      rw [HF3.out]
      refine ⟨rfl, ?_, K3.out.set13 (fun h => absurd h (Nat.lt_irrefl _)) s⟩
      exact I3.out.only ((Only.refl (fun i => i = w.heap.size) w3).set13 (fun _ => rfl) s) (fun i _ hi h => by omega)
  · have hd : (er2 == 0) = false := by simpa using he
    have R : Hid (TakeRec w lo g (firstOf bs) (.panicked [{ v := .iface 36 (.int .i64 4), recovered := false }]) w2) := by
      rw [HF.out, if_pos he]
      exact ⟨rfl, K2.out⟩
    clear C4 HF K2 R2 I2
    go_wp2_with fail
    refine (must_no 4 w2).mono ?_
    rintro e w' ⟨rfl, rfl⟩
    go_wp2
    exact ⟨rfl, R.out⟩

/-- What Decode's function leaves in its variables. -/
def Dec1Step (w : World) (lo g sb : Nat) (r : Except Int (S11 × List UInt8)) (e : Ending) (w' : World) : Prop :=
  match r with
  | .ok (s, rest) => e = .returned (.tuple #[]) ∧ Has w' sb 31 s.cells ∧ InAt w' lo g rest 0 ∧ Only (fun i => i = g ∨ i = sb) w w'
  | .error er => e = .panicked [{ v := .iface 36 (.int .i64 er), recovered := false }] ∧ Only (fun i => i = g ∨ i = sb) w w'

set_option maxHeartbeats 1000000 in
theorem decode1_any (lo g ib sb : Nat) (bs : List UInt8) (w : World) (hI : InAt w lo g bs 0) (hi : Has w ib 77 #[.pointer (some ⟨g, 0, none⟩)]) (hs : Has w sb 31 S11.zero.cells) (hsb : sb < lo) (hT : Tabs w) (hg : 1 < g ∧ 2 < g) (hb : bs.length ≤ 100000) :
    Calls Tryd.prog 90 #[.pointer (some ⟨ib, 0, none⟩), .pointer (some ⟨sb, 0, none⟩)] w (Dec1Step w lo g sb (firstOf bs)) := by
  have c0 := hi.cell 0
  simp at c0
  have hgl := hI.lt
  have C := Lib.hid (stattake_any lo g bs w hI hT hg hb)
  have HS := Lib.hid hs
  clear hI hi hs hT
  go_enter Tryd.func90, Tryd.ntmps90
  go_wp2_with fail
  refine C.out.mono ?_
  intro e w1 hst
  cases hr : firstOf bs with
  | error er =>
    rw [hr] at hst
    obtain ⟨rfl, k1⟩ := hst
    have R : Hid (Dec1Step w lo g sb (.error er) (.panicked [{ v := .iface 36 (.int .i64 er), recovered := false }]) w1) := ⟨rfl, k1.mono (fun _ _ h => .inl h)⟩
    clear C k1 hr HS
    go_wp2
    exact ⟨rfl, R.out⟩
  | ok p =>
    obtain ⟨s, rest⟩ := p
    rw [hr] at hst
    obtain ⟨rfl, i1, k1⟩ := hst
    have h1 := HS.out.only k1 (by omega)
    have R : Hid (Dec1Step w lo g sb (firstOf bs) (.returned (.tuple #[])) (set13 w1 sb s)) := by
      rw [hr]
      exact ⟨rfl, has_set13 h1 s, i1.only ((Only.refl (fun i => i = sb) w1).set13 (fun _ => rfl) s) (fun i hi _ h => by omega), (k1.mono (T := fun i => i = g ∨ i = sb) (fun _ _ h => .inl h)).set13 (fun _ => .inr rfl) s⟩
    obtain ⟨⟨x0, x1, x2, x3, x4⟩, ⟨x5, x6, x7, x8⟩, ⟨x9, x10, x11, x12⟩⟩ := h1.cells13
    obtain ⟨⟨y0, y1, y2, y3, y4⟩, ⟨y5, y6, y7, y8⟩, ⟨y9, y10, y11, y12⟩⟩ := h1.frozen13
    clear C i1 k1 h1 hr HS
    unfold set13 at R
    unfold S11.val S11.cells
    go_wp2
    go_end0
    exact R.out
end Go.Proofs.YtepiifbleoimkaaDoor
