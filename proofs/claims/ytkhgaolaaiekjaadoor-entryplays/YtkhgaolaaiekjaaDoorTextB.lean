/-
  Package text: Runes, wrong, Valid over whatever text.
-/
import Derived.Test.YtkhgaolaaiekjaaDoorTextA
namespace Go.Proofs.YtkhgaolaaiekjaaDoor
open Go.RowKit Go.Lib
set_option maxRecDepth 100000

theorem Tryd.enterWrong : ∀ args w, (callFunc 72 args).run Tryd.prog w = .ok (.enter 72 args) w := enters_of Tryd.func72 (by kernel_rfl) rfl
/-- What Runes answers. -/
def runesAns (r : Option Nat) : Value := .tuple #[.int .i64 (r.getD 0 : Nat), .bool r.isSome]

theorem has_set_far {w : World} {g : Nat} {t : TypeId} {cs : Array Value} {q : Nat} (h : Has w g t cs) (hq : g ≠ q) (u : Value) : Has (w.setCell ⟨q, 0, none⟩ u) g t cs := h.far hq u

/-- The error of what is no UTF-8. -/
def utfErr (r : Option Nat) : Int := if r = none then 2 else 0
/-- What keeps a text from a message. -/
def wrongOf (l : List UInt8) : Int := if 64 < l.length then 3 else if (0 : UInt8) ∈ l then 2 else utfErr (runes l)

theorem idx_mem (l : List UInt8) (c : UInt8) : 0 ≤ Lib.indexByte l c ↔ c ∈ l := by
  induction l with
  | nil => simp [Lib.indexByte]
  | cons d l ih =>
    have hg := Lib.indexByte_ge l c
    simp only [Lib.indexByte, List.mem_cons]
    by_cases h : d = c
    · subst h
      simp
    · have hb : (d == c) = false := by simpa using h
      rw [hb]
      simp only [Bool.false_eq_true, if_false]
      by_cases h1 : Lib.indexByte l c = -1
      · have hb1 : (Lib.indexByte l c == -1) = true := by simpa using h1
        rw [hb1]
        simp only [if_true]
        constructor
        · intro hh; omega
        · rintro (hh | hh)
          · exact absurd hh.symm h
          · have := ih.2 hh
            omega
      · have hb1 : (Lib.indexByte l c == -1) = false := by simpa using h1
        rw [hb1]
        simp only [Bool.false_eq_true, if_false]
        constructor
        · intro hh
          exact .inr (ih.1 (by omega))
        · rintro (hh | hh)
          · exact absurd hh.symm h
          · have := ih.2 hh
            omega

theorem contains_any (l : List UInt8) (w : World) : Calls Tryd.prog 73 #[.string (strOf l), .string ⟨#[0]⟩] w fun e w' => e = .returned (.bool (decide ((0 : UInt8) ∈ l))) ∧ w = w' := by
  refine (Tryd.strings_Contains_one (strOf l) 0 w).mono ?_
  rintro e w' ⟨rfl, rfl⟩
  refine ⟨?_, rfl⟩
  rw [strOf_toList]
  congr 2
  exact decide_eq_decide.2 (idx_mem l 0)

def Wrong1Step (w : World) (er : Int) (e : Ending) (w' : World) : Prop :=
  Below w.heap.size w w' ∧ if er = 0 then e = .returned (.tuple #[]) else e = .panicked [{ v := .iface 26 (.int .i64 er), recovered := false }]

set_option maxHeartbeats 400000 in
theorem wrong1_any (l : List UInt8) (sb : Nat) (w : World) (hT : Tabs w) (hl : l.length ≤ 9223372036854775806) (hs : Has w sb 9 #[.string (strOf l)]) :
    Calls Tryd.prog 72 #[.pointer (some ⟨sb, 0, none⟩)] w (Wrong1Step w (wrongOf l)) := by
  have c0 := hs.cell 0
  simp at c0
  have hz : (strOf l).size = l.length := strOf_size l
  have C := Lib.hid (count_any l w hT hl)
  have C0 := Lib.hid (contains_any l w)
  clear hs hT
  by_cases h1 : 64 < l.length
  · have R : Hid (Wrong1Step w (wrongOf l) (.panicked [{ v := .iface 26 (.int .i64 3), recovered := false }]) w) := by
      rw [wrongOf, if_pos h1]
      exact ⟨Below.refl _ _, by simp⟩
    have hd : decide ((l.length : Int) ≤ 64) = false := decide_eq_false (by omega)
    clear C C0 h1
    go_enter Tryd.func72, Tryd.ntmps72
    go_wp2_with fail
    refine (must_no 3 w).mono ?_
    rintro e w' ⟨rfl, rfl⟩
    go_wp2
    exact ⟨rfl, R.out⟩
  · have hd : decide ((l.length : Int) ≤ 64) = true := decide_eq_true (by omega)
    by_cases h2 : (0 : UInt8) ∈ l
    · have R : Hid (Wrong1Step w (wrongOf l) (.panicked [{ v := .iface 26 (.int .i64 2), recovered := false }]) w) := by
        rw [wrongOf, if_neg h1, if_pos h2]
        exact ⟨Below.refl _ _, by simp⟩
      have C0 : Hid (Calls Tryd.prog 73 #[.string (strOf l), .string ⟨#[0]⟩] w fun e w' => e = .returned (.bool true) ∧ w = w') := by
        have := C0.out
        rw [decide_eq_true h2] at this
        exact this
      clear C h1 h2
      go_enter Tryd.func72, Tryd.ntmps72
      go_wp2_with fail
      refine (must_yes 3 w).mono ?_
      rintro e w' ⟨rfl, rfl⟩
      go_wp2_with fail
      refine C0.out.mono ?_
      rintro e w' ⟨rfl, rfl⟩
      go_wp2_with fail
      refine (must_no 2 w).mono ?_
      rintro e w' ⟨rfl, rfl⟩
      go_wp2
      exact ⟨rfl, R.out⟩
    · have C0 : Hid (Calls Tryd.prog 73 #[.string (strOf l), .string ⟨#[0]⟩] w fun e w' => e = .returned (.bool false) ∧ w = w') := by
        have := C0.out
        rw [decide_eq_false h2] at this
        exact this
      have hw : wrongOf l = utfErr (runes l) := by rw [wrongOf, if_neg h1, if_neg h2]
      rw [hw]
      clear h1 h2 hw
      generalize runes l = r at C ⊢
      go_enter Tryd.func72, Tryd.ntmps72
      go_wp2_with fail
      refine (must_yes 3 w).mono ?_
      rintro e w' ⟨rfl, rfl⟩
      go_wp2_with fail
      refine C0.out.mono ?_
      rintro e w' ⟨rfl, rfl⟩
      go_wp2_with fail
      refine (must_yes 2 w).mono ?_
      rintro e w' ⟨rfl, rfl⟩
      go_wp2_with fail
      refine C.out.mono ?_
      rintro e w1 ⟨hb, he⟩
      cases r with
      | none =>
        simp only at he
        subst he
        have R : Hid (Wrong1Step w (utfErr none) (.panicked [{ v := .iface 26 (.int .i64 2), recovered := false }]) w1) := ⟨hb, by simp [utfErr]⟩
        clear hb C C0
        go_wp2
        exact ⟨rfl, R.out⟩
      | some n =>
        simp only at he
        subst he
        have R : Hid (Wrong1Step w (utfErr (some n)) (.returned (.tuple #[])) w1) := ⟨hb, by simp [utfErr]⟩
        clear hb C C0
        go_wp2
        go_end0
        exact R.out

set_option maxHeartbeats 400000 in
theorem wrong_any (l : List UInt8) (w : World) (hT : Tabs w) (hl : l.length ≤ 9223372036854775806) :
    Calls Tryd.prog 67 #[.string (strOf l)] w fun e w' => e = .returned (.int .i64 (wrongOf l)) ∧ Below w.heap.size w w' := by
  obtain ⟨W, hW⟩ : ∃ W, W = w.alloc (.cells #[.string (strOf l)] 9) := ⟨_, rfl⟩
  have hs : Has W w.heap.size 9 #[.string (strOf l)] := by rw [hW]; exact Has.new _ _ _
  have hsz : W.heap.size = w.heap.size + 1 := by rw [hW]; simp
  have hB : Below w.heap.size w W := by rw [hW]; exact (Below.refl _ _).alloc (Nat.le_refl _) _
  have hB1 : Below W.heap.size W (W.alloc errBox) := (Below.refl _ _).alloc (Nat.le_refl _) _
  have C1 := wrong1_any l w.heap.size (W.alloc errBox) ((hT.below hB).below hB1) hl (hs.alloc _)
  have hnew : Has (W.alloc errBox) W.heap.size 26 #[.int .i64 0] := Has.new _ _ _
  have hmf : ∀ (fn : Fn) (first cap : Array Value) (w : World), (Instr.makeFunc fn first cap).run Tryd.prog w = .ok (.func fn first cap) w := fun _ _ _ _ => rfl
  have hsz2 : (W.alloc errBox).heap.size = W.heap.size + 1 := by simp
  generalize wrongOf l = er at C1 ⊢
  by_cases he : er = 0
  · have C := Lib.hid (caught_ok 72 _ Tryd.enterWrong W (fun w' => Below w.heap.size w w') (C1.mono fun e w' h => by
      obtain ⟨h1, h2⟩ := h
      rw [if_pos he] at h2
      refine ⟨h2, hnew.only (Only.of_below h1) (by omega), ?_⟩
      exact hB.trans ((hB1.mono (by omega)).trans (h1.mono (by omega)))))
    rw [hW] at C
    clear hs hB hB1 C1 hnew hT hW
    subst he
    go_enter Tryd.func67, Tryd.ntmps67
    go_wp2_with fail
    refine C.out.mono ?_
    rintro e w1 ⟨rfl, h2⟩
    have R : Hid (Below w.heap.size w w1) := h2
    clear h2 C
    go_wp2
    go_ret
    exact ⟨rfl, R.out⟩
  · have C := Lib.hid (caught_panic 72 _ Tryd.enterWrong W er (fun w' => Below w.heap.size w w') (C1.mono fun e w' h => by
      obtain ⟨h1, h2⟩ := h
      rw [if_neg he] at h2
      refine ⟨h2, hnew.only (Only.of_below h1) (by omega), ?_⟩
      exact hB.trans ((hB1.mono (by omega)).trans (h1.mono (by omega)))))
    rw [hW] at C
    clear hs hB hB1 C1 hnew hT
    go_enter Tryd.func67, Tryd.ntmps67
    go_wp2_with fail
    refine C.out.mono ?_
    rintro e w1 ⟨rfl, w2, h0, h2, hw⟩
    have R : Hid (Below w.heap.size w w1) := by
      rw [hw]
      exact h2.setCell (by simp) _
    clear h0 h2 hw C hW
    go_wp2
    go_ret
    exact ⟨rfl, R.out⟩

set_option maxHeartbeats 400000 in
theorem valid_any (l : List UInt8) (w : World) (hT : Tabs w) (hl : l.length ≤ 9223372036854775806) :
    Calls Tryd.prog 59 #[.string (strOf l)] w fun e w' => e = .returned (.bool (decide (wrongOf l = 0))) ∧ Below w.heap.size w w' := by
  have C := Lib.hid (wrong_any l w hT hl)
  clear hT
  generalize wrongOf l = er at C ⊢
  go_enter Tryd.func59, Tryd.ntmps59
  go_wp2_with fail
  refine C.out.mono ?_
  rintro e w1 ⟨rfl, h2⟩
  have R : Hid (Below w.heap.size w w1) := h2
  clear h2 C
  by_cases he : er = 0
  · subst he
    go_wp2
    go_ret
    exact ⟨rfl, R.out⟩
  · have hb : (er == 0) = false := by simpa using he
    go_wp2
    go_ret
    refine ⟨?_, R.out⟩
    simp [he]
end Go.Proofs.YtkhgaolaaiekjaaDoor
