/-
  The second reading's Text of an In: what it answers over whatever bytes, and that it is what Take answers.
-/
import Derived.Test.YthfddmgphdklfaaDoorTextD
import Derived.Test.YthfddmgphdklfaaDoorRefRaw
namespace Go.Proofs.YthfddmgphdklfaaDoor
open Go.RowKit Go.Lib
set_option maxRecDepth 100000

/-- The second reading's two takes. -/
def rst (bs : List UInt8) : List UInt8 × Nat × Int := refR ((refT 2 bs 0 0).1 : Int) bs (refT 2 bs 0 0).2.1 (refT 2 bs 0 0).2.2
theorem rst_eq (bs : List UInt8) : (rst bs).1 = (tst bs 0).1 ∧ (rst bs).2.2 = (tst bs 0).2.2 ∧ (refT 2 bs 0 0).1 < 65536 ∧
    ((rst bs).2.2 = 0 → (rst bs).1.length = (refT 2 bs 0 0).1 ∧ (bs.length : Int) - (rst bs).2.1 = ((tst bs 0).2.1.length : Int)) := by
  have h0 : ¬ ((2 : Int) < 1 ∨ (8 : Int) < 2) := by omega
  by_cases h1 : (bs.length : Int) < 2
  · have e1 : refT 2 bs 0 0 = (0, 0, 4) := by rw [refT, if_neg (by simp), if_neg h0, if_pos (by omega)]
    have e2 : takeSt 2 bs 0 = (0, [], 4) := by rw [takeSt, if_neg (by simp), if_neg h0, if_pos h1]
    have e3 : rst bs = ([], 0, 4) := by rw [rst, e1]; rfl
    have e4 : tst bs 0 = ([], [], 4) := by rw [tst, e2]; rfl
    rw [e1, e3, e4]
    exact ⟨rfl, rfl, by simp, fun h => by simp at h⟩
  · have e1 : refT 2 bs 0 0 = (le (bs.take 2), 2, 0) := by rw [refT, if_neg (by simp), if_neg h0, if_neg (by omega)]; simp
    have e2 : takeSt 2 bs 0 = (le (bs.take 2), bs.drop 2, 0) := by rw [takeSt, if_neg (by simp), if_neg h0, if_neg h1]; rfl
    have h3 : le (bs.take 2) < 65536 := by
      have := (takeSt_lt bs 0).1
      rw [e2] at this
      exact this
    obtain ⟨n, hn⟩ : ∃ n, le (bs.take 2) = n := ⟨_, rfl⟩
    rw [hn] at e1 e2 h3
    have hd : (bs.drop 2).length = bs.length - 2 := List.length_drop
    by_cases h4 : ((bs.drop 2).length : Int) < (n : Int)
    · have e3 : rst bs = ([], 2, 4) := by rw [rst, e1]; show refR (n : Int) bs 2 0 = _; rw [refR, if_neg (by simp), if_neg (by omega), if_pos (by omega)]
      have e4 : tst bs 0 = ([], [], 4) := by rw [tst, e2]; show rawSt (n : Int) (bs.drop 2) 0 = _; rw [rawSt, if_neg (by simp), if_neg (by omega), if_pos h4]
      rw [e1, e3, e4]
      exact ⟨rfl, rfl, h3, fun h => by simp at h⟩
    · have e3 : rst bs = ((bs.drop 2).take n, 2 + n, 0) := by rw [rst, e1]; show refR (n : Int) bs 2 0 = _; rw [refR, if_neg (by simp), if_neg (by omega), if_neg (by omega)]; simp
      have e4 : tst bs 0 = ((bs.drop 2).take n, (bs.drop 2).drop n, 0) := by rw [tst, e2]; show rawSt (n : Int) (bs.drop 2) 0 = _; rw [rawSt, if_neg (by simp), if_neg (by omega), if_neg h4]; simp
      rw [e1, e3, e4]
      refine ⟨rfl, rfl, h3, fun _ => ⟨?_, ?_⟩⟩
      · show ((bs.drop 2).take n).length = n
        rw [List.length_take]; omega
      · show (bs.length : Int) - ((2 + n : Nat) : Int) = (((bs.drop 2).drop n).length : Int)
        rw [List.length_drop]; omega

/-- What the second reading's Text leaves. -/
def RText (w : World) (H g : Nat) (bs : List UInt8) (e : Ending) (w' : World) : Prop :=
  e = .returned (.tuple #[.string (strOf (tans bs 0).1), .int .i64 (tans bs 0).2]) ∧ RefAt w' H g bs (rst bs).2.1 (rst bs).2.2 ∧ Only (fun i => i = g) w w'

set_option maxHeartbeats 1000000 in
theorem reftext_any (H g : Nat) (bs : List UInt8) (w : World) (h : RefAt w H g bs 0 0) (hb : bs.length ≤ 140737488355328) :
    Calls Tryd.prog 21 #[.pointer (some ⟨g, 0, none⟩)] w (RText w H g bs) := by
  have C1 := Lib.hid (reftake_any H g 0 2 bs 0 w h)
  obtain ⟨q1, q2, q3, q4⟩ := rst_eq bs
  have hte : tans bs 0 = if (tst bs 0).2.2 ≠ 0 then ([], (tst bs 0).2.2) else if wrongOf (tst bs 0).1 ≠ 0 then ([], wrongOf (tst bs 0).1) else ((tst bs 0).1, 0) := rfl
  rw [← q1, ← q2] at hte
  have hrs : rst bs = refR ((refT 2 bs 0 0).1 : Int) bs (refT 2 bs 0 0).2.1 (refT 2 bs 0 0).2.2 := rfl
  generalize refT 2 bs 0 0 = s1 at C1 q3 q4 hrs
  obtain ⟨n, k1, bad1⟩ := s1
  simp only at q3 q4 hrs
  have HF : Hid (∀ w' a, Only (fun i => i = g) w w' → RefAt w' H g bs (rst bs).2.1 (rst bs).2.2 → tans bs 0 = a → RText w H g bs (.returned (.tuple #[.string (strOf a.1), .int .i64 a.2])) w') := by
    rintro w' _ k hi rfl
    exact ⟨rfl, hi, k⟩
  have HR := Lib.hid hrs
  have HE := Lib.hid hte
  have HQ : Hid ((rst bs).2.2 = 0 → (rst bs).1.length = n) := fun h => (q4 h).1
  have hwu : IntKind.i64.wrap (n : Int) = (n : Int) := IntWalk.i64_in _ (by omega)
  clear h q1 q2 q4 hte hrs
  go_enter Tryd.func21, Tryd.ntmps21
  go_wp2_with fail
  refine C1.out.mono ?_
  rintro e w1 ⟨rfl, r1, o1⟩
  have C2 := Lib.hid (refraw_any H g k1 (n : Int) bs bad1 w1 r1 hb)
  rw [← HR.out] at C2
  have K1 := Lib.hid o1
  clear r1 o1 C1 HR
  simp only
  go_wp2_with fail
  refine C2.out.mono ?_
  rintro e w2 ⟨u, rfl, ow, r2, o2⟩
  have hcv := run_str u _ _ _ w2 (owns_SlIs ow)
  have K2 : Hid (Only (fun i => i = g) w w2) := K1.out.trans o2 (fun _ _ h => h)
  have R2 := Lib.hid r2
  obtain ⟨A, c, z1, z2, z3, z4, z5, z6⟩ := r2
  have c2 := z1.cell 2
  simp at c2
  clear ow o2 K1 C2 z1 z4
  generalize rst bs = st at hcv R2 HF HE HQ c2
  obtain ⟨x, k2, bad2⟩ := st
  simp only at hcv R2 HF HE HQ c2
  by_cases he : bad2 = 0
  · subst he
    have hx := HQ.out rfl
    have hte := HE.out
    rw [if_neg (by simp)] at hte
    have HE := Lib.hid hte
    have C3 := Lib.hid (refvalid_any x w2 (by omega))
    clear hte HQ
    by_cases hn : 64 < n
    · have d : decide ((64 : Int) < (n : Int)) = true := decide_eq_true (by omega)
      have hw : wrongOf x = 3 := by rw [wrongOf, if_pos (by omega)]
      have R := Lib.hid (HF.out _ _ K2.out R2.out (by rw [HE.out, hw, if_pos (by decide)]))
      clear HF HE C3 R2 K2 hw
      go_wp2
      go_ret2
      exact R.out
    · have d : decide ((64 : Int) < (n : Int)) = false := decide_eq_false (by omega)
      by_cases hw : wrongOf x = 0
      · have R := Lib.hid (HF.out _ _ K2.out R2.out (by rw [HE.out, if_neg (by simp [hw])]))
        rw [decide_eq_true hw] at C3
        clear HF HE R2 K2 hw
        go_wp2_with fail
        refine C3.out.mono ?_
        rintro e w' ⟨rfl, rfl⟩
        clear C3
        go_wp2
        go_ret2
        exact R.out
      · have hw2 : wrongOf x = 2 := by
          rw [wrongOf, if_neg (by omega)] at hw ⊢
          by_cases h0 : (0 : UInt8) ∈ x
          · rw [if_pos h0]
          · rw [if_neg h0] at hw ⊢
            unfold utfErr at hw ⊢
            by_cases h1 : runes x = none
            · rw [if_pos h1]
            · rw [if_neg h1] at hw
              exact absurd rfl hw
        have R := Lib.hid (HF.out _ _ K2.out R2.out (by rw [HE.out, hw2, if_pos (by decide)]))
        rw [decide_eq_false hw] at C3
        clear HF HE R2 K2 hw hw2
        go_wp2_with fail
        refine C3.out.mono ?_
        rintro e w' ⟨rfl, rfl⟩
        clear C3
        go_wp2
        go_ret2
        exact R.out
  · have hne : (bad2 == 0) = false := by simpa using he
    have hne2 : (bad2 != 0) = true := by simpa using he
    have R : Hid (∀ m, RText w H g bs (.returned (.tuple #[.string (strOf []), .int .i64 bad2])) (w2.drewN m)) := fun m =>
      HF.out (w2.drewN m) ([], bad2) (K2.out.drewN m) R2.out (by rw [HE.out, if_pos he])
    clear HF HE R2 K2 he HQ
    go_wp2
    go_quiet (fail)
    go_wp2
    go_ret2
    exact R.out _
end Go.Proofs.YthfddmgphdklfaaDoor
