/-
  The second reading's In: a text, data, a count, a record of a message.
-/
import Derived.Test.YtepiifbleoimkaaGreatDoorRefMsgK
import Derived.Test.YtepiifbleoimkaaGreatDoorRefStatB
namespace Go.Proofs.YtepiifbleoimkaaGreatDoor
open Go.RowKit
set_option maxRecDepth 100000

/-- What a field's value is. -/
def RVal : F → Value → Prop
  | .text l, v => v = .string (strOf l)
  | .qid q, v => v = q.val
  | .data b, v => v = .string (strOf b)
  | .stat s, v => v = s.val
  | _, _ => False
/-- What the taking of a field leaves. -/
def RTk (w : World) (H g : Nat) (k : K) (bs r : List UInt8) (er : Int) (e : Ending) (w' : World) : Prop :=
  ∃ f v r' er', e = .returned v ∧ f.kind = k ∧ RVal f v ∧ RV w' H g bs r' er' ∧ Only (fun i => i = g) w w' ∧ r'.length ≤ r.length ∧ (er' = 0 → tkE k r er = some (f, r')) ∧ (er' ≠ 0 → tkE k r er = none)
theorem RV.frozen {w : World} {H g : Nat} {bs r : List UInt8} {er : Int} (h : RV w H g bs r er) : w.frozen? ⟨g, 2, none⟩ = false := by
  obtain ⟨k, ⟨A, c, h1, _⟩, _⟩ := h
  exact h1.frozen 2
theorem RV.setBad {w : World} {H g : Nat} {bs r : List UInt8} {er : Int} (h : RV w H g bs r er) (er' : Int) (hn : er' ≠ 0) : RV (w.setCell ⟨g, 2, none⟩ (.int .i64 er')) H g bs r er' := by
  obtain ⟨k, ⟨A, c, h1, h2, h3, h4, h5, h6⟩, _⟩ := h
  refine ⟨k, ⟨A, c, h1.set 2 _, h2, h3, ?_, h5, h6⟩, fun h => absurd h hn⟩
  have hlt := h1.lt
  exact h4.only ((Only.refl (fun i => i = g) w).setCell (p := ⟨g, 2, none⟩) (fun _ => rfl) _) (by omega) (fun i _ hi h => by omega)
theorem rawSt_err {n : Int} {r : List UInt8} {er : Int} (h : er ≠ 0) : rawSt n r er = ([], r, er) := by rw [rawSt, if_pos h]
theorem tkN_is (n : Nat) (r : List UInt8) : tkN n r = if (takeSt (n : Int) r 0).2.2 = 0 then some ((takeSt (n : Int) r 0).1, (takeSt (n : Int) r 0).2.1) else none := rfl
theorem tkRaw_is (n : Nat) (r : List UInt8) : tkRaw n r = if (rawSt (n : Int) r 0).2.2 = 0 then some ((rawSt (n : Int) r 0).1, (rawSt (n : Int) r 0).2.1) else none := rfl
theorem tst_zero {r : List UInt8} {er : Int} (h : (tst r er).2.2 = 0) : er = 0 := Decidable.byContradiction fun hn => by
  have e : (tst r er).2.2 = er := by
    unfold tst
    rw [takeSt_err 2 r er hn]
    simp only
    rw [rawSt_err hn]
  exact hn (e ▸ h)
theorem text_pure (r : List UInt8) (er : Int) : ((tans r er).2 = 0 → tkE .text r er = some (.text (tans r er).1, (tst r er).2.1)) ∧ ((tans r er).2 ≠ 0 → tkE .text r er = none) := by
  constructor
  · intro h
    have h0 := tst_zero (tans_zero h).1
    subst h0
    rw [tkE, if_pos rfl]
    simp [tkF, textSt, h]
  · intro h
    rw [tkE]
    split
    · rename_i h0
      subst h0
      simp [tkF, textSt, h]
    · rfl
theorem data_pure (r : List UInt8) (er : Int) (x : Nat) (r1 : List UInt8) (e1 : Int) (hs : takeSt 4 r er = (x, r1, e1)) :
    (8192 < x → tkE .data r er = none) ∧ (x ≤ 8192 → ((rawSt (x : Int) r1 e1).2.2 = 0 → tkE .data r er = some (.data (rawSt (x : Int) r1 e1).1, (rawSt (x : Int) r1 e1).2.1)) ∧ ((rawSt (x : Int) r1 e1).2.2 ≠ 0 → tkE .data r er = none)) := by
  by_cases h0 : er = 0
  · subst h0
    have hE : tkE .data r 0 = ((tkN 4 r).bind fun n => if 8192 < n.1 then none else (tkRaw n.1 n.2).map fun x => (.data x.1, x.2)) := rfl
    have hs' : takeSt ((4 : Nat) : Int) r 0 = (x, r1, e1) := hs
    by_cases h1 : e1 = 0
    · subst h1
      have hN : tkN 4 r = some (x, r1) := by rw [tkN_is, hs', if_pos rfl]
      rw [hE, hN, Option.bind_some]
      refine ⟨fun h => if_pos h, fun h => ⟨fun hr => ?_, fun hr => ?_⟩⟩
      · simp only
        rw [if_neg (by omega), tkRaw_is, if_pos hr]
        rfl
      · simp only
        rw [if_neg (by omega), tkRaw_is, if_neg hr]
        rfl
    · have hN : tkN 4 r = none := by rw [tkN_is, hs', if_neg h1]
      rw [hE, hN, rawSt_err h1]
      exact ⟨fun _ => rfl, fun _ => ⟨fun h => absurd h h1, fun _ => rfl⟩⟩
  · have hn : tkE .data r er = none := if_neg h0
    rw [takeSt_err 4 r er h0] at hs
    injection hs with a b
    injection b with b c
    subst a b c
    rw [hn, rawSt_err h0]
    exact ⟨fun _ => rfl, fun _ => ⟨fun h => absurd h h0, fun _ => rfl⟩⟩
theorem many_pure (r : List UInt8) (er : Int) (x : Nat) (r1 : List UInt8) (e1 : Int) (hs : takeSt 2 r er = (x, r1, e1)) :
    (e1 ≠ 0 → x = 0 ∧ tkE .texts r er = none ∧ tkE .qids r er = none) ∧ (e1 = 0 → er = 0 ∧ tkN 2 r = some (x, r1)) ∧ (16 < x → tkE .texts r er = none ∧ tkE .qids r er = none) := by
  have hx : e1 ≠ 0 → x = 0 := fun h => by
    have := takeSt_bad1 (n := 2) (bs := r) (er := er) (by rw [hs]; exact h)
    rw [hs] at this
    exact this
  by_cases h0 : er = 0
  · subst h0
    have hE : tkE .texts r 0 = ((tkN 2 r).bind fun n => if 16 < n.1 then none else (tkMany (fun b => textSt b 0) n.1 n.2).map fun x => (.texts x.1, x.2)) := rfl
    have hE2 : tkE .qids r 0 = ((tkN 2 r).bind fun n => if 16 < n.1 then none else (tkMany tkQ n.1 n.2).map fun x => (.qids x.1, x.2)) := rfl
    have hs' : takeSt ((2 : Nat) : Int) r 0 = (x, r1, e1) := hs
    refine ⟨fun h => ?_, fun h => ?_, fun h => ?_⟩
    · have hN : tkN 2 r = none := by rw [tkN_is, hs', if_neg h]
      rw [hE, hE2, hN]
      exact ⟨hx h, rfl, rfl⟩
    · subst h
      exact ⟨rfl, by rw [tkN_is, hs', if_pos rfl]⟩
    · have h1 : e1 = 0 := Decidable.byContradiction fun hn => by have := hx hn; omega
      subst h1
      have hN : tkN 2 r = some (x, r1) := by rw [tkN_is, hs', if_pos rfl]
      rw [hE, hE2, hN]
      exact ⟨if_pos h, if_pos h⟩
  · have hn : tkE .texts r er = none := if_neg h0
    have hn2 : tkE .qids r er = none := if_neg h0
    refine ⟨fun h => ⟨hx h, hn, hn2⟩, fun h => ?_, fun _ => ⟨hn, hn2⟩⟩
    rw [takeSt_err 2 r er h0] at hs
    injection hs with a b
    injection b with b c
    exact absurd (c.trans h) h0
theorem stat_pure (r : List UInt8) (er : Int) (x : Nat) (r1 : List UInt8) (e1 : Int) (b r2 : List UInt8) (e2 : Int) (hs : takeSt 2 r er = (x, r1, e1)) (hq : rawSt (x : Int) r1 e1 = (b, r2, e2)) :
    (∀ s, tkRec b = some s → e2 = 0 → tkE .stat r er = some (.stat s, r2)) ∧ (tkRec b = none → tkE .stat r er = none) ∧ (e2 ≠ 0 → tkE .stat r er = none) := by
  by_cases h0 : er = 0
  · subst h0
    have hE : tkE .stat r 0 = ((tkN 2 r).bind fun n => (tkRaw n.1 n.2).bind fun x => (tkRec x.1).map fun s => (.stat s, x.2)) := rfl
    have hs' : takeSt ((2 : Nat) : Int) r 0 = (x, r1, e1) := hs
    by_cases h1 : e1 = 0
    · subst h1
      have hN : tkN 2 r = some (x, r1) := by rw [tkN_is, hs', if_pos rfl]
      rw [hE, hN, Option.bind_some]
      simp only
      by_cases h2 : e2 = 0
      · subst h2
        have hR : tkRaw x r1 = some (b, r2) := by rw [tkRaw_is, hq, if_pos rfl]
        rw [hR, Option.bind_some]
        refine ⟨fun s h _ => ?_, fun h => ?_, fun h => absurd rfl h⟩
        · simp only
          rw [h]
          rfl
        · simp only
          rw [h]
          rfl
      · have hR : tkRaw x r1 = none := by rw [tkRaw_is, hq, if_neg h2]
        rw [hR]
        exact ⟨fun s _ h => absurd h h2, fun _ => rfl, fun _ => rfl⟩
    · have hN : tkN 2 r = none := by rw [tkN_is, hs', if_neg h1]
      rw [rawSt_err h1] at hq
      injection hq with a c
      injection c with c d
      rw [hE, hN]
      exact ⟨fun s _ h => absurd (d.trans h) h1, fun _ => rfl, fun _ => rfl⟩
  · have hn : tkE .stat r er = none := if_neg h0
    rw [takeSt_err 2 r er h0] at hs
    injection hs with a c
    injection c with c d
    subst a c d
    rw [rawSt_err h0] at hq
    injection hq with a c
    injection c with c d
    exact ⟨fun s _ h => absurd (d.trans h) h0, fun _ => hn, fun _ => hn⟩

set_option maxHeartbeats 1000000 in
theorem rintext_any (H g : Nat) (bs r : List UInt8) (er : Int) (w : World) (h : RV w H g bs r er) (hb : bs.length ≤ 100000) :
    Calls Tryz.prog 41 #[.pointer (some ⟨g, 0, none⟩)] w (RTk w H g .text bs r er) := by
  have C := Lib.hid (rv_text H g bs r er w h (by omega))
  have hp := text_pure r er
  have hl : (tst r er).2.1.length ≤ r.length := by
    unfold tst
    exact Nat.le_trans (rawSt_len2 _ _ _) (takeSt_len _ _ _)
  have ha := @tans_zero r er
  unfold RVText at C
  generalize tans r er = a at C hp ha
  generalize tst r er = b at C hp ha hl
  obtain ⟨l, ea⟩ := a
  obtain ⟨b1, b2, et⟩ := b
  simp only at C hp ha hl
  have HP := Lib.hid hp
  clear h hp
  by_cases h0 : ea = 0
  · subst h0
    have ht := (ha rfl).1
    subst ht
    have hd : ((0 : Int) != 0) = false := rfl
    clear ha
    go_enter Tryz.func41, Tryz.ntmps41
    go_wp2_with fail
    refine C.out.mono ?_
    rintro e w1 ⟨rfl, r1, k1⟩
    have R : Hid (RTk w H g .text bs r er (.returned (.string (strOf l))) w1) := Lib.hid ⟨.text l, _, b2, 0, rfl, rfl, rfl, r1, k1, hl, fun _ => HP.out.1 trivial, fun h => absurd rfl h⟩
    clear C r1 k1 HP
    go_wp2
    go_ret
    exact R.out
  · have hd : (ea != 0) = true := by simpa using h0
    by_cases h1 : et = 0
    · subst h1
      clear ha
      go_enter Tryz.func41, Tryz.ntmps41
      go_wp2_with fail
      refine C.out.mono ?_
      rintro e w1 ⟨rfl, r1, k1⟩
      have c2 := r1.bad
      have f2 := r1.frozen
      have hlt := r1.lt
      have R : Hid (RTk w H g .text bs r er (.returned (.string (strOf l))) (w1.setCell ⟨g, 2, none⟩ (.int .i64 2))) := Lib.hid ⟨.text l, _, b2, 2, rfl, rfl, rfl, r1.setBad 2 (by decide), k1.setCell (p := ⟨g, 2, none⟩) (fun _ => rfl) _, hl, fun h => absurd h (by decide), fun _ => HP.out.2 h0⟩
      clear C r1 k1 HP h0
      go_wp2
      go_ret
      exact R.out
    · have hd2 : (et == 0) = false := by simpa using h1
      clear ha
      go_enter Tryz.func41, Tryz.ntmps41
      go_wp2_with fail
      refine C.out.mono ?_
      rintro e w1 ⟨rfl, r1, k1⟩
      have c2 := r1.bad
      have R : Hid (RTk w H g .text bs r er (.returned (.string (strOf l))) w1) := Lib.hid ⟨.text l, _, b2, et, rfl, rfl, rfl, r1, k1, hl, fun h => absurd h h1, fun _ => HP.out.2 h0⟩
      clear C r1 k1 HP h0 h1
      go_wp2
      go_ret
      exact R.out

/-- How many: none where there is an error. -/
def RMany (w : World) (H g : Nat) (bs r : List UInt8) (er : Int) (e : Ending) (w' : World) : Prop :=
  ∃ (n : Nat) (r' : List UInt8) (er' : Int), e = .returned (.int .i64 (n : Int)) ∧ n ≤ 16 ∧ RV w' H g bs r' er' ∧ Only (fun i => i = g) w w' ∧ r'.length ≤ r.length ∧ (er' = 0 → er = 0 ∧ tkN 2 r = some (n, r')) ∧ (er' ≠ 0 → n = 0 ∧ tkE .texts r er = none ∧ tkE .qids r er = none)
set_option maxHeartbeats 1000000 in
theorem rmany_any (H g : Nat) (bs r : List UInt8) (er : Int) (w : World) (h : RV w H g bs r er) :
    Calls Tryz.prog 43 #[.pointer (some ⟨g, 0, none⟩)] w (RMany w H g bs r er) := by
  have C := Lib.hid (rv_take H g 2 bs r er w h)
  have hlt := takeSt_lt 2 r er
  have hln := takeSt_len 2 r er
  obtain ⟨st, hst⟩ : ∃ s, s = takeSt 2 r er := ⟨_, rfl⟩
  rw [show takeSt ((2 : Nat) : Int) r er = st from hst.symm] at hlt
  rw [← hst] at C hln
  obtain ⟨x, r1, e1⟩ := st
  have HP := Lib.hid (many_pure r er x r1 e1 hst.symm)
  simp only at C hlt hln
  have hw : IntKind.i64.wrap (x : Int) = (x : Int) := IntWalk.i64_in _ (by omega)
  clear h hst
  by_cases h16 : 16 < x
  · have hd : decide ((16 : Int) < (x : Int)) = true := decide_eq_true (by omega)
    go_enter Tryz.func43, Tryz.ntmps43
    go_wp2_with fail
    refine C.out.mono ?_
    rintro e w1 ⟨rfl, q1, k1⟩
    have c2 := q1.bad
    have f2 := q1.frozen
    have R : Hid (RMany w H g bs r er (.returned (.int .i64 0)) (w1.setCell ⟨g, 2, none⟩ (.int .i64 2))) := Lib.hid ⟨0, r1, 2, rfl, by omega, q1.setBad 2 (by decide), k1.setCell (p := ⟨g, 2, none⟩) (fun _ => rfl) _, hln, fun h => absurd h (by decide), fun _ => ⟨rfl, HP.out.2.2 h16⟩⟩
    clear C q1 k1 HP
    go_wp2
    go_ret
    exact R.out
  · have hd : decide ((16 : Int) < (x : Int)) = false := decide_eq_false (by omega)
    go_enter Tryz.func43, Tryz.ntmps43
    go_wp2_with fail
    refine C.out.mono ?_
    rintro e w1 ⟨rfl, q1, k1⟩
    have R : Hid (RMany w H g bs r er (.returned (.int .i64 (x : Int))) w1) := Lib.hid ⟨x, r1, e1, rfl, by omega, q1, k1, hln, HP.out.2.1, HP.out.1⟩
    clear C q1 k1 HP
    go_wp2
    go_ret
    exact R.out

set_option maxHeartbeats 1000000 in
theorem rdata_any (H g : Nat) (bs r : List UInt8) (er : Int) (w : World) (h : RV w H g bs r er) (hb : bs.length ≤ 100000) :
    Calls Tryz.prog 44 #[.pointer (some ⟨g, 0, none⟩)] w (RTk w H g .data bs r er) := by
  have C := Lib.hid (rv_take H g 4 bs r er w h)
  have hlt := takeSt_lt 4 r er
  have hln := takeSt_len 4 r er
  obtain ⟨st, hst⟩ : ∃ s, s = takeSt 4 r er := ⟨_, rfl⟩
  rw [show takeSt ((4 : Nat) : Int) r er = st from hst.symm] at hlt
  rw [← hst] at C hln
  obtain ⟨x, r1, e1⟩ := st
  have HP := Lib.hid (data_pure r er x r1 e1 hst.symm)
  simp only at C hlt hln
  have hw : IntKind.i64.wrap (x : Int) = (x : Int) := IntWalk.i64_in _ (by omega)
  clear h hst
  by_cases h16 : 8192 < x
  · have hd : decide ((8192 : Int) < (x : Int)) = true := decide_eq_true (by omega)
    go_enter Tryz.func44, Tryz.ntmps44
    go_wp2_with fail
    refine C.out.mono ?_
    rintro e w1 ⟨rfl, q1, k1⟩
    have c2 := q1.bad
    have f2 := q1.frozen
    have K2 := Lib.hid (k1.setCell (p := ⟨g, 2, none⟩) (fun _ => rfl) (.int .i64 2))
    have C2 := Lib.hid (rv_raw H g (x : Int) bs r1 2 _ (q1.setBad 2 (by decide)) (by omega))
    rw [rawSt_err (by decide)] at C2
    clear C q1 k1
    go_wp2_with fail
    refine C2.out.mono ?_
    rintro e w2 ⟨u, rfl, ow, q2, k2⟩
    have r3 := run_str u _ _ _ w2 (owns_SlIs ow)
    have R : Hid (RTk w H g .data bs r er (.returned (.string (strOf []))) w2) := Lib.hid ⟨.data [], _, r1, 2, rfl, rfl, rfl, q2, K2.out.trans k2 (fun _ _ h => h), hln, fun h => absurd h (by decide), fun _ => HP.out.1 h16⟩
    clear C2 ow q2 k2 K2 HP c2 f2
    go_wp2
    go_ret
    exact R.out
  · have hd : decide ((8192 : Int) < (x : Int)) = false := decide_eq_false (by omega)
    have hp2 := HP.out.2 (by omega)
    have hl2 := rawSt_len2 (x : Int) r1 e1
    go_enter Tryz.func44, Tryz.ntmps44
    go_wp2_with fail
    refine C.out.mono ?_
    rintro e w1 ⟨rfl, q1, k1⟩
    have C2 := Lib.hid (rv_raw H g (x : Int) bs r1 e1 _ q1 (by omega))
    have K1 := Lib.hid k1
    have HP2 := Lib.hid hp2
    generalize rawSt (x : Int) r1 e1 = sr at C2 HP2 hl2
    obtain ⟨b, r2, e2⟩ := sr
    simp only at C2 HP2 hl2
    clear C q1 k1 HP hp2
    go_wp2_with fail
    refine C2.out.mono ?_
    rintro e w2 ⟨u, rfl, ow, q2, k2⟩
    have r3 := run_str u _ _ _ w2 (owns_SlIs ow)
    have R : Hid (RTk w H g .data bs r er (.returned (.string (strOf b))) w2) := Lib.hid ⟨.data b, _, r2, e2, rfl, rfl, rfl, q2, K1.out.trans k2 (fun _ _ h => h), by omega, HP2.out.1, HP2.out.2⟩
    clear C2 ow q2 k2 K1 HP2
    go_wp2
    go_ret
    exact R.out
theorem rinqid_any (H g : Nat) (bs r : List UInt8) (er : Int) (w : World) (h : RV w H g bs r er) :
    Calls Tryz.prog 42 #[.pointer (some ⟨g, 0, none⟩)] w (RTk w H g .qid bs r er) := by
  refine (rv_qid H g bs r er w h).mono ?_
  rintro e w1 ⟨he, q1, k1⟩
  exact ⟨.qid (qTake r er).1, _, _, _, he, rfl, rfl, q1, k1, qTake_len r er, qid_yes, qid_no⟩
end Go.Proofs.YtepiifbleoimkaaGreatDoor
