/-
  Layer 13's own check: what is wrong of entries.
-/
import Derived.Test.YtkhgaolaaiekjaaDoorEntC
import Derived.Test.YtkhgaolaaiekjaaDoorRefTextB
namespace Go.Proofs.YtkhgaolaaiekjaaDoor
open Go.RowKit Go.Lib
set_option maxRecDepth 100000

/-- What is wrong of an entry by itself. -/
def bad1 (x : En) : Int := if nameOf x.n ≠ 0 then nameOf x.n else if x.i = 0 then 1 else 0
/-- What is wrong of entries behind another one. -/
def chkP : Option En → List En → Int
  | _, [] => 0
  | none, x :: l => if bad1 x ≠ 0 then bad1 x else chkP (some x) l
  | some p, x :: l => if bad1 x ≠ 0 then bad1 x else if Ahd p.n x.n then chkP (some x) l else 7
def chkE (l : List En) : Int := chkP none l
/-- Entries that may be. -/
def Good (l : List En) : Prop := (∀ x ∈ l, nameOf x.n = 0 ∧ x.i ≠ 0) ∧ Rise l
theorem bad1_zero {x : En} : bad1 x = 0 ↔ nameOf x.n = 0 ∧ x.i ≠ 0 := by
  unfold bad1
  by_cases h : nameOf x.n = 0
  · rw [if_neg (by simp [h])]
    by_cases k : x.i = 0
    · rw [if_pos k]
      simp [h, k]
    · rw [if_neg k]
      simp [h, k]
  · rw [if_pos h]
    simp [h]
theorem chkP_good : ∀ (l : List En) (p : Option En), chkP p l = 0 ↔ (∀ x ∈ l, nameOf x.n = 0 ∧ x.i ≠ 0) ∧ Rise l ∧ (∀ y, p = some y → ∀ x ∈ l, Ahd y.n x.n)
  | [], p => by cases p <;> simp [chkP, Rise]
  | x :: l, none => by
    unfold chkP
    by_cases hb : bad1 x = 0
    · rw [if_neg (by simp [hb]), chkP_good l (some x)]
      constructor
      · rintro ⟨h1, h2, h3⟩
        refine ⟨fun z hz => ?_, rise_cons (h3 x rfl) h2, fun y hy => by cases hy⟩
        rcases List.mem_cons.1 hz with rfl | hz
        · exact bad1_zero.1 hb
        · exact h1 z hz
      · rintro ⟨h1, h2, _⟩
        exact ⟨fun z hz => h1 z (by simp [hz]), h2.tail, fun y hy z hz => by
          injection hy with hy
          subst hy
          exact h2.head z hz⟩
    · rw [if_pos hb]
      constructor
      · intro h
        exact absurd h hb
      · rintro ⟨h1, _⟩
        exact absurd (bad1_zero.2 (h1 x (by simp))) hb
  | x :: l, some p => by
    unfold chkP
    by_cases hb : bad1 x = 0
    · rw [if_neg (by simp [hb])]
      by_cases ha : Ahd p.n x.n
      · rw [if_pos ha, chkP_good l (some x)]
        constructor
        · rintro ⟨h1, h2, h3⟩
          refine ⟨fun z hz => ?_, rise_cons (h3 x rfl) h2, fun y hy z hz => ?_⟩
          · rcases List.mem_cons.1 hz with rfl | hz
            · exact bad1_zero.1 hb
            · exact h1 z hz
          · injection hy with hy
            subst hy
            rcases List.mem_cons.1 hz with rfl | hz
            · exact ha
            · exact ahd_trans ha (h3 x rfl z hz)
        · rintro ⟨h1, h2, _⟩
          exact ⟨fun z hz => h1 z (by simp [hz]), h2.tail, fun y hy z hz => by
            injection hy with hy
            subst hy
            exact h2.head z hz⟩
      · rw [if_neg ha]
        constructor
        · intro h
          cases h
        · rintro ⟨_, _, h3⟩
          exact absurd (h3 p rfl x (by simp)) ha
    · rw [if_pos hb]
      constructor
      · intro h
        exact absurd h hb
      · rintro ⟨h1, _⟩
        exact absurd (bad1_zero.2 (h1 x (by simp))) hb
theorem chkE_good (l : List En) : chkE l = 0 ↔ Good l := by
  unfold chkE Good
  rw [chkP_good]
  simp
/-- The entry ahead of place j. -/
def prevE (l : List En) (j : Nat) : Option En := if j = 0 then none else l[j - 1]?

set_option maxHeartbeats 1000000 in
theorem check13_any (E : Nat → Prop) (v : Value) (l : List En) (w : World) (hl : l.length ≤ 1000000) (hx : ∀ x ∈ l, x.n.length ≤ 1000000) (h : EsIs w E v l) : Calls Tryd.prog 11 #[v] w fun e w' => e = .returned (.int .i64 (chkE l)) ∧ ∃ q, w' = w.drewN q := by
  obtain ⟨A, c, rfl⟩ := h.form
  have HA := Lib.hid h
  have HX := Lib.hid hx
  clear h hx
  go_enter Tryd.func11, Tryd.ntmps11
  go_wp2
  go_loopw [3, 4] (fun i _ wr => ∃ j q : Nat, j ≤ l.length ∧ i = .int .i64 j ∧ Hid (chkE l = chkP (prevE l j) (l.drop j)) ∧ wr = w.drewN q) (fun i _ _ => l.length - (intOf i).toNat)
  case atStart => exact ⟨0, 0, Nat.zero_le _, rfl, rfl, rfl⟩
  case round =>
    obtain ⟨j, q, hj, rfl, hrel, rfl⟩ := hrel
    by_cases hlt : j < l.length
    · obtain ⟨ad, c', e, z0, z1⟩ := HA.out.at hlt
      injection e with e1 _ e2
      subst e1 e2
      obtain ⟨x, hx⟩ : ∃ x, x = l[j] := ⟨_, rfl⟩
      rw [← hx] at z0 z1
      have i0 : (0 : Int) ≤ (j : Int) := by omega
      have i1 : (j : Int) < (l.length : Int) := by omega
      have CN := Lib.hid (fun W => refname_any x.n W (by have := HX.out x (by rw [hx]; exact List.getElem_mem hlt); omega))
      have hd : l.drop j = x :: l.drop (j + 1) := by rw [List.drop_eq_getElem_cons hlt, ← hx]
      have hp : prevE l (j + 1) = some x := by
        unfold prevE
        rw [if_neg (by omega), Nat.add_sub_cancel, List.getElem?_eq_getElem hlt, ← hx]
      by_cases hn : nameOf x.n = 0
      · by_cases hi : x.i = 0
        · have hb : bad1 x = 1 := by unfold bad1; rw [if_neg (by simp [hn]), if_pos hi]
          have R : Hid (chkE l = 1) := Lib.hid (by
            rw [hrel.out, hd]
            cases hv : prevE l j <;> (unfold chkP; rw [if_pos (by rw [hb]; decide), hb]))
          have d2 : ((x.i : Int) == 0) = true := by simpa using hi
          rw [hi] at z1
          rw [hn] at CN
          clear hx hrel hd hp hb HA hi d2
          go_wp2_with fail
          refine (CN.out _).mono ?_
          rintro e w' ⟨rfl, rfl⟩
          go_wp2
          go_ret
          exact ⟨by rw [R.out]; rfl, _, rfl⟩
        · have d2 : ((x.i : Int) == 0) = false := by simpa using hi
          have hb : bad1 x = 0 := bad1_zero.2 ⟨hn, hi⟩
          by_cases h0 : j = 0
          · have R : Hid (chkE l = chkP (prevE l (j + 1)) (l.drop (j + 1))) := Lib.hid (by
              rw [hrel.out, hp, hd, h0]
              unfold prevE
              rw [if_pos rfl]
              exact if_neg (by simp [hb]))
            have d3 : decide (0 < j) = false := decide_eq_false (by omega)
            rw [hn] at CN
            clear hx hrel hd hp hb HA h0
            go_wp2_with fail
            refine (CN.out _).mono ?_
            rintro e w' ⟨rfl, rfl⟩
            go_wp2_with fail
            go_quiet (fail)
            go_wp2
            go_roundw
            case rel => exact ⟨j + 1, _, by omega, by go_num, R, rfl⟩
            case measure => simp [intOf]; omega
          · have hj1 : j - 1 < l.length := by omega
            obtain ⟨a2, c2, e2, y0, y1⟩ := HA.out.at hj1
            injection e2 with e3 _ e4
            injection e3 with e3
            subst e3 e4
            obtain ⟨p, hpr⟩ : ∃ p, p = l[j - 1] := ⟨_, rfl⟩
            rw [← hpr] at y0 y1
            have d3 : decide (0 < j) = true := decide_eq_true (by omega)
            have hv : prevE l j = some p := by
              unfold prevE
              rw [if_neg h0, List.getElem?_eq_getElem hj1, ← hpr]
            have i2 : (0 : Int) ≤ (j : Int) - 1 := by omega
            have i3 : (j : Int) - 1 < (l.length : Int) := by omega
            have tn : ((j : Int) - 1).toNat = j - 1 := by omega
            by_cases ha : Ahd p.n x.n
            · have R : Hid (chkE l = chkP (prevE l (j + 1)) (l.drop (j + 1))) := Lib.hid (by
                rw [hrel.out, hp, hd, hv]
                unfold chkP
                rw [if_neg (by simp [hb]), if_pos ha]
                cases hq : l.drop (j + 1) <;> rfl)
              have hB : Op.bytesLess (strOf p.n).toList (strOf x.n).toList = true := by rw [strOf_list, strOf_list]; exact ha
              rw [hn] at CN
              clear hx hrel hd hp hb HA h0 hpr hv ha
              go_wp2_with fail
              refine (CN.out _).mono ?_
              rintro e w' ⟨rfl, rfl⟩
              go_wp2_with fail
              go_quiet (fail)
              go_wp2
              go_roundw
              case rel => exact ⟨j + 1, _, by omega, by go_num, R, rfl⟩
              case measure => simp [intOf]; omega
            · have R : Hid (chkE l = 7) := Lib.hid (by
                rw [hrel.out, hd, hv]
                unfold chkP
                rw [if_neg (by simp [hb]), if_neg ha])
              have hB : Op.bytesLess (strOf p.n).toList (strOf x.n).toList = false := by rw [strOf_list, strOf_list]; exact Bool.eq_false_iff.2 ha
              rw [hn] at CN
              clear hx hrel hd hp hb HA h0 hpr hv ha
              go_wp2_with fail
              refine (CN.out _).mono ?_
              rintro e w' ⟨rfl, rfl⟩
              go_wp2_with fail
              go_quiet (fail)
              go_wp2
              go_ret
              exact ⟨by rw [R.out]; rfl, _, World.drewN_drewN _ _ _⟩
      · have hb : bad1 x = nameOf x.n := if_pos hn
        have R : Hid (chkE l = nameOf x.n) := Lib.hid (by
          rw [hrel.out, hd]
          cases hv : prevE l j <;> (unfold chkP; rw [if_pos (by rw [hb]; exact hn), hb]))
        have d2 : (nameOf x.n != 0) = true := by simpa using hn
        generalize nameOf x.n = N at *
        clear hx hrel hd hp hb HA
        go_wp2_with fail
        refine (CN.out _).mono ?_
        rintro e w' ⟨rfl, rfl⟩
        go_wp2
        go_ret
        exact ⟨by rw [R.out]; rfl, _, rfl⟩
    · have R : Hid (chkE l = 0) := Lib.hid (by
        rw [hrel.out, List.drop_of_length_le (by omega)]
        cases prevE l j <;> rfl)
      clear hrel
      go_wp2
      go_ret
      exact ⟨by rw [R.out]; rfl, _, rfl⟩
end Go.Proofs.YtkhgaolaaiekjaaDoor
