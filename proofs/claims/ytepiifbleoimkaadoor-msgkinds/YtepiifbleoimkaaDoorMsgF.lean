/-
  Package msg: the taking of texts, lists, data and records.
-/
import Derived.Test.YtepiifbleoimkaaDoorMsgE
import Derived.Deep.AppendLies
namespace Go.Proofs.YtepiifbleoimkaaDoor
open Go.RowKit
set_option maxRecDepth 100000

/-- The value v is the field f; what its slices lead to lies in blocks from lo on and below hi. -/
def FV (w : World) (lo hi : Nat) (v : Value) : F → Prop
  | .num n x => v = .int (ik n) (x : Int)
  | .text l => v = .string (strOf l)
  | .texts L => StrsAt w lo hi v L
  | .qid q => v = q.val
  | .qids Q => QdsAt w lo hi v Q
  | .data b => SlIs w lo hi v b
  | .stat s => v = s.val
def tkE (k : K) (bs : List UInt8) (er : Int) : Option (F × List UInt8) := if er = 0 then tkF k bs else none
/-- What a field's taking leaves: a panic with ErrForm where the bytes tell none; else a field of that kind, and the In behind it. -/
def TkStep (w : World) (lo g : Nat) (k : K) (bs : List UInt8) (er : Int) (e : Ending) (w' : World) : Prop :=
  (e = .panicked [{ v := .iface 36 (.int .i64 2), recovered := false }] ∧ Only (fun i => i = g) w w' ∧ tkE k bs er = none) ∨
  (∃ f v bs' er', e = .returned v ∧ f.kind = k ∧ FV w' w.heap.size w'.heap.size v f ∧ InAt w' lo g bs' er' ∧ Only (fun i => i = g) w w' ∧ bs'.length ≤ bs.length ∧ (er' = 0 → tkE k bs er = some (f, bs')) ∧ (er' ≠ 0 → tkE k bs er = none))

theorem textSt_bad {bs : List UInt8} {er : Int} (h : er ≠ 0) : textSt bs er = none := by
  have h2 : (takeSt 2 bs er).2.2 ≠ 0 := takeSt_bad h
  have h3 : (tst bs er).2.2 ≠ 0 := by
    unfold tst
    rw [rawSt, if_pos h2]
    exact h2
  unfold textSt tans
  rw [if_pos h3]
  simp [h3]
set_option maxHeartbeats 1000000 in
theorem taketext5_any (lo g : Nat) (bs : List UInt8) (er : Int) (w : World) (hI : InAt w lo g bs er) (hT : Tabs w) (h1 : ¬ 1 = g) (h2 : ¬ 2 = g) (hb : bs.length ≤ 140737488355328) :
    Calls Tryd.prog 70 #[.pointer (some ⟨g, 0, none⟩)] w (TTextStep w lo g (textSt bs er)) := by
  have C := Lib.hid (ttake_any lo g bs er w hI hT h1 h2 hb)
  have hz := @tans_zero bs er
  have hs : textSt bs er = if (tans bs er).2 = 0 then some ((tans bs er).1, (tst bs er).2.1) else none := rfl
  unfold TTake at C
  generalize tans bs er = A at C hz hs
  generalize tst bs er = B at C hz hs
  obtain ⟨t, x⟩ := A
  obtain ⟨b1, b2, b3⟩ := B
  simp only at C hz hs
  clear hI hT h1 h2 hb
  by_cases h0 : x = 0
  · subst h0
    have h3 := (hz rfl).1
    subst h3
    rw [if_pos rfl] at hs
    rw [hs]
    clear hz hs
    go_enter Tryd.func70, Tryd.ntmps70
    go_wp2_with fail
    refine C.out.mono ?_
    rintro e w1 ⟨rfl, i1, f1⟩
    have R : Hid (TTextStep w lo g (some (t, b2)) (.returned (.string (strOf t))) w1) := ⟨rfl, i1, f1⟩
    clear i1 f1 C
    go_wp2_with fail
    refine (must_yes 2 w1).mono ?_
    rintro e w' ⟨rfl, rfl⟩
    go_wp2
    go_ret
    exact R.out
  · rw [if_neg h0] at hs
    rw [hs]
    have hd : (x == 0) = false := by simpa using h0
    clear hz hs h0
    go_enter Tryd.func70, Tryd.ntmps70
    go_wp2_with fail
    refine C.out.mono ?_
    rintro e w1 ⟨rfl, i1, f1⟩
    have R : Hid (TTextStep w lo g none (.panicked [{ v := .iface 36 (.int .i64 2), recovered := false }]) w1) := ⟨rfl, f1⟩
    clear i1 f1 C
    go_wp2_with fail
    refine (must_no 2 w1).mono ?_
    rintro e w' ⟨rfl, rfl⟩
    go_wp2
    exact ⟨rfl, R.out⟩
theorem tktext_any (lo g : Nat) (bs : List UInt8) (er : Int) (w : World) (hI : InAt w lo g bs er) (hT : Tabs w) (h1 : ¬ 1 = g) (h2 : ¬ 2 = g) (hb : bs.length ≤ 100000) :
    Calls Tryd.prog 70 #[.pointer (some ⟨g, 0, none⟩)] w (TkStep w lo g .text bs er) := by
  refine (taketext5_any lo g bs er w hI hT h1 h2 (by omega)).mono ?_
  intro e w' st
  cases hr : textSt bs er with
  | none =>
    rw [hr] at st
    refine .inl ⟨st.1, st.2, ?_⟩
    unfold tkE
    split
    · rename_i h0
      rw [h0] at hr
      simp [tkF, hr]
    · rfl
  | some p =>
    obtain ⟨t, rest⟩ := p
    rw [hr] at st
    obtain ⟨he, i1, k1⟩ := st
    have h0 : er = 0 := Decidable.byContradiction fun hn => by rw [textSt_bad hn] at hr; cases hr
    refine .inr ⟨.text t, _, rest, 0, he, rfl, rfl, i1, k1, textSt_len hr, fun _ => ?_, fun h => absurd rfl h⟩
    rw [tkE, if_pos h0, tkF]
    rw [h0] at hr
    rw [hr]
    rfl

theorem takeSt_bad1 {n : Int} {bs : List UInt8} {er : Int} (h : (takeSt n bs er).2.2 ≠ 0) : (takeSt n bs er).1 = 0 := by
  unfold takeSt at h ⊢
  split
  · rfl
  · split
    · rfl
    · split
      · rfl
      · rename_i a b c
        rw [if_neg a, if_neg b, if_neg c] at h
        exact absurd rfl h
theorem takeSt_zero {n : Int} {bs : List UInt8} {er : Int} (h : (takeSt n bs er).2.2 = 0) : er = 0 := Decidable.byContradiction fun hn => takeSt_bad hn h
theorem tkN_of {n : Nat} {bs : List UInt8} {er : Int} (h : (takeSt (n : Int) bs er).2.2 = 0) : er = 0 ∧ tkN n bs = some ((takeSt (n : Int) bs er).1, (takeSt (n : Int) bs er).2.1) := by
  have h0 := takeSt_zero h
  subst h0
  exact ⟨rfl, by rw [tkN, if_pos h]⟩
theorem tkN_none {n : Nat} {bs : List UInt8} (h : (takeSt (n : Int) bs 0).2.2 ≠ 0) : tkN n bs = none := by rw [tkN, if_neg h]

set_option maxHeartbeats 1000000 in
theorem tkdata_any (lo g : Nat) (bs : List UInt8) (er : Int) (w : World) (hI : InAt w lo g bs er) (hb : bs.length ≤ 100000) :
    Calls Tryd.prog 74 #[.pointer (some ⟨g, 0, none⟩)] w (TkStep w lo g .data bs er) := by
  have C := Lib.hid (take_any lo g 4 bs er w hI)
  have hlt := takeSt_lt 4 bs er
  have hln := takeSt_len 4 bs er
  have hz := @tkN_of 4 bs er
  have hz2 := @takeSt_bad1 4 bs er
  have hno := @tkN_none 4 bs
  have hE : tkE .data bs er = if er = 0 then ((tkN 4 bs).bind fun n => if 8192 < n.1 then none else (tkRaw n.1 n.2).map fun x => (.data x.1, x.2)) else none := rfl
  have h00 : er = 0 → takeSt ((4 : Nat) : Int) bs 0 = takeSt ((4 : Nat) : Int) bs er := fun h => by rw [h]
  obtain ⟨s, hs⟩ : ∃ s, s = takeSt 4 bs er := ⟨_, rfl⟩
  rw [show takeSt ((4 : Nat) : Int) bs er = s from hs.symm] at hlt hz h00
  rw [← hs] at C hz2 hln
  obtain ⟨n, r, e1⟩ := s
  simp only at C hlt hz hz2 hln
  have hwu : IntKind.i64.wrap (n : Int) = (n : Int) := IntWalk.i64_in _ (by omega)
  have hgl := hI.lt
  clear hs hI
  by_cases hbig : 8192 < n
  · have hd : decide ((n : Int) ≤ 8192) = false := decide_eq_false (by omega)
    have h1 : e1 = 0 := Decidable.byContradiction fun hn => by have := hz2 hn; omega
    have hN : Hid (tkE .data bs er = none) := by
      obtain ⟨a, b⟩ := hz h1
      refine Lib.hid ?_
      rw [hE, if_pos a, b]
      simp [hbig]
    clear hE h00 hz hz2 hno hbig
    go_enter Tryd.func74, Tryd.ntmps74
    go_wp2_with fail
    refine C.out.mono ?_
    rintro e w1 ⟨rfl, i1, k1⟩
    have R : Hid (TkStep w lo g .data bs er (.panicked [{ v := .iface 36 (.int .i64 2), recovered := false }]) w1) := .inl ⟨rfl, k1, hN.out⟩
    clear C i1 k1 hN
    go_wp2_with fail
    refine (must_no 2 w1).mono ?_
    rintro e w' ⟨rfl, rfl⟩
    go_wp2
    exact ⟨rfl, R.out⟩
  · have hd : decide ((n : Int) ≤ 8192) = true := decide_eq_true (by omega)
    have HE := Lib.hid hE
    have HZ := Lib.hid hz
    have HN := Lib.hid hno
    have H0 := Lib.hid h00
    clear hE hz hno h00
    go_enter Tryd.func74, Tryd.ntmps74
    go_wp2_with fail
    refine C.out.mono ?_
    rintro e w1 ⟨rfl, i1, k1⟩
    have C2 := Lib.hid (raw_any lo g (n : Int) r e1 w1 i1 (by omega))
    have K1 := Lib.hid k1
    clear C i1 k1
    go_wp2_with fail
    refine (must_yes 2 w1).mono ?_
    rintro e w' ⟨rfl, rfl⟩
    go_wp2_with fail
    refine C2.out.mono ?_
    rintro e w2 ⟨u, rfl, ow, i2, k2⟩
    have R : Hid (TkStep w lo g .data bs er (.returned u) w2) := by
      have hsz := K1.out.size
      refine .inr ⟨.data (rawSt (n : Int) r e1).1, u, (rawSt (n : Int) r e1).2.1, (rawSt (n : Int) r e1).2.2, rfl, rfl, owns_SlIs (owns_base ow hsz), i2, K1.out.trans k2 (fun _ _ h => h), Nat.le_trans (rawSt_len2 _ _ _) hln, fun hr => ?_, fun hr => ?_⟩
      · have h1 : e1 = 0 := Decidable.byContradiction fun hn => by
          rw [rawSt, if_pos hn] at hr
          exact hn hr
        obtain ⟨a, b⟩ := HZ.out h1
        rw [h1] at hr ⊢
        rw [HE.out, if_pos a, b, Option.bind_some, if_neg hbig, tkRaw, if_pos hr]
        rfl
      · rw [HE.out]
        split
        · rename_i h0
          by_cases h1 : e1 = 0
          · obtain ⟨a, b⟩ := HZ.out h1
            rw [h1] at hr
            rw [b, Option.bind_some, if_neg hbig, tkRaw, if_neg hr]
            rfl
          · rw [HN.out (by rw [H0.out h0]; exact h1)]
            rfl
        · rfl
    obtain ⟨A, c, rfl, _⟩ := owns_slice ow
    clear C2 ow i2 k2 K1 HE HZ HN H0
    go_wp2
    go_ret
    exact R.out
end Go.Proofs.YtepiifbleoimkaaDoor
