/-
  Package disk: the library's Clone and Repeat, mayBe, made, New, and the calls that only tell.
-/
import Derived.Test.YtnhojcldeloigaaGreatDiskA
import Derived.Test.YtnhojcldeloigaaGreatShelf
import Derived.Laws.CopyOwn
import Derived.OwnWalk
import Derived.Deep.QuietTactic
import Derived.BigQuiet
namespace Go.Proofs.YtnhojcldeloigaaGreat
open Go.RowKit
set_option maxRecDepth 100000

/-- A copy of one's own. -/
def CopyStep (w : World) (e : TypeId) (size n : Nat) (us : List Value) (r : Ending) (w' : World) : Prop :=
  ∃ v, r = .returned v ∧ w'.ownsRow w.heap.size e size v n us ∧ Below w.heap.size w w'

set_option maxHeartbeats 400000 in
theorem cloneS_any (E : Nat → Prop) (n : Nat) (x : Value) (us : List Value) (w : World) (hx : RwIs w E n x us) (hu : us.length = n * 1) (h1 : ∀ u ∈ us, u.oneCell' = true) (hl : n * 16 ≤ 140737488355328) :
    Calls Tryz.prog 59 #[x] w (CopyStep w 9 1 n us) := by
  obtain ⟨A, c, rfl, hr⟩ := hx
  cases A with
  | none =>
    have h0 : us = [] := by
      rcases Nat.eq_zero_or_pos us.length with h0 | h0
      · exact List.eq_nil_of_length_eq_zero h0
      · obtain ⟨ad, h, _⟩ := hr h0
        cases h
    subst h0
    have hn : n = 0 := by simp at hu; omega
    subst hn
    have hnil := fun W => Go.Lib.run_eql_slice_nil (P := Tryz.prog) W 32 9 none 0 c 0 0 Tryz.underlying32
    clear hr
    go_enter Tryz.func59, Tryz.ntmps59
    go_wp2
    go_ret
    exact ⟨_, rfl, World.ownsRow_nil _ _ _ _, Below.refl _ _⟩
  | some ad =>
    have hnil := fun W => Go.Lib.run_eql_slice_nil (P := Tryz.prog) W 32 9 (some ad) n c 0 0 Tryz.underlying32
    obtain ⟨i0, hi0, hz0, hz1, hz2⟩ := info_parts Tryz.infoStr
    have hown : (w.alloc (.cells #[] 9)).ownsRow w.heap.size 9 1 (.slice (some ⟨w.heap.size, 0, none⟩) 0 0) 0 [] :=
      World.ownsRow_made w #[] 0 (Nat.le_refl _) (by simp [maxLen]) (by simp)
    have hnews : ∀ j u, us[j]? = some u → (w.alloc (.cells #[] 9)).cell? (ad.add j) = some u := fun j u hu' => by
      have hj := (List.getElem?_eq_some_iff.1 hu').1
      obtain ⟨ad', h, _, hlt, hc⟩ := hr (by omega)
      injection h with h
      subst h
      exact (World.cell?_alloc_lt w _ _ (by rw [addr_block]; exact hlt)).trans (hc j u hu')
    have H1 := Lib.hid hown
    have H2 := Lib.hid hnews
    have H3 := Lib.hid hu
    have H4 := Lib.hid h1
    clear hown hnews hr hu h1
    go_enter Tryz.func59, Tryz.ntmps59
    go_wp2_with (at_builtin; refine wpList_append_own_at _ rfl (.tmp 5) (.tmp 6) 32 rfl w.heap.size 9 i0 (.string ⟨#[]⟩) 1 16 Tryz.underlying32 hi0 hz0 hz1 hz2 rfl (by decide) _ _ _ rfl H1.out ad n c us rfl H3.out H2.out H4.out (by simp [maxLen]; omega) (by omega) (by simp) ?_)
    intro v' w1 h1 h2 _ _
    have h1 : w1.ownsRow w.heap.size 9 1 v' n us := by simpa using h1
    have R : Hid (CopyStep w 9 1 n us (.returned v') w1) := ⟨_, rfl, h1, ((Below.refl _ w).alloc (Nat.le_refl _) _).grown h2 (by simp) (by simp [Value.ownBlock])⟩
    clear h1 h2
    go_wp2
    go_ret
    exact R.out

set_option maxHeartbeats 400000 in
theorem cloneBo_any (E : Nat → Prop) (n : Nat) (x : Value) (us : List Value) (w : World) (hx : RwIs w E n x us) (hu : us.length = n * 1) (h1 : ∀ u ∈ us, u.oneCell' = true) (hl : n * 1 ≤ 140737488355328) :
    Calls Tryz.prog 49 #[x] w (CopyStep w 4 1 n us) := by
  obtain ⟨A, c, rfl, hr⟩ := hx
  cases A with
  | none =>
    have h0 : us = [] := by
      rcases Nat.eq_zero_or_pos us.length with h0 | h0
      · exact List.eq_nil_of_length_eq_zero h0
      · obtain ⟨ad, h, _⟩ := hr h0
        cases h
    subst h0
    have hn : n = 0 := by simp at hu; omega
    subst hn
    have hnil := fun W => Go.Lib.run_eql_slice_nil (P := Tryz.prog) W 34 4 none 0 c 0 0 Tryz.underlying34
    clear hr
    go_enter Tryz.func49, Tryz.ntmps49
    go_wp2
    go_ret
    exact ⟨_, rfl, World.ownsRow_nil _ _ _ _, Below.refl _ _⟩
  | some ad =>
    have hnil := fun W => Go.Lib.run_eql_slice_nil (P := Tryz.prog) W 34 4 (some ad) n c 0 0 Tryz.underlying34
    obtain ⟨i0, hi0, hz0, hz1, hz2⟩ := info_parts Tryz.infoBool
    have hown : (w.alloc (.cells #[] 4)).ownsRow w.heap.size 4 1 (.slice (some ⟨w.heap.size, 0, none⟩) 0 0) 0 [] :=
      World.ownsRow_made w #[] 0 (Nat.le_refl _) (by simp [maxLen]) (by simp)
    have hnews : ∀ j u, us[j]? = some u → (w.alloc (.cells #[] 4)).cell? (ad.add j) = some u := fun j u hu' => by
      have hj := (List.getElem?_eq_some_iff.1 hu').1
      obtain ⟨ad', h, _, hlt, hc⟩ := hr (by omega)
      injection h with h
      subst h
      exact (World.cell?_alloc_lt w _ _ (by rw [addr_block]; exact hlt)).trans (hc j u hu')
    have H1 := Lib.hid hown
    have H2 := Lib.hid hnews
    have H3 := Lib.hid hu
    have H4 := Lib.hid h1
    clear hown hnews hr hu h1
    go_enter Tryz.func49, Tryz.ntmps49
    go_wp2_with (at_builtin; refine wpList_append_own_at _ rfl (.tmp 5) (.tmp 6) 34 rfl w.heap.size 4 i0 (.bool false) 1 1 Tryz.underlying34 hi0 hz0 hz1 hz2 rfl (by decide) _ _ _ rfl H1.out ad n c us rfl H3.out H2.out H4.out (by simp [maxLen]; omega) (by omega) (by simp) ?_)
    intro v' w1 h1 h2 _ _
    have h1 : w1.ownsRow w.heap.size 4 1 v' n us := by simpa using h1
    have R : Hid (CopyStep w 4 1 n us (.returned v') w1) := ⟨_, rfl, h1, ((Below.refl _ w).alloc (Nat.le_refl _) _).grown h2 (by simp) (by simp [Value.ownBlock])⟩
    clear h1 h2
    go_wp2
    go_ret
    exact R.out


/-- May a disk have so many sectors of that size? -/
def mayB (n z : Int) : Bool := decide (1 ≤ n ∧ n ≤ 16384 ∧ 64 ≤ z ∧ z ≤ 1024)
set_option maxHeartbeats 400000 in
theorem maybe_any (n z : Int) (w : World) : Calls Tryz.prog 28 #[.int .i64 n, .int .i64 z] w fun e w' => e = .returned (.bool (mayB n z)) ∧ w = w' := by
  by_cases h1 : 1 ≤ n
  · by_cases h2 : n ≤ 16384
    · by_cases h3 : 64 ≤ z
      · by_cases h4 : z ≤ 1024
        · have R : Hid (mayB n z = true) := Lib.hid (decide_eq_true ⟨h1, h2, h3, h4⟩)
          go_enter Tryz.func28, Tryz.ntmps28
          go_wp2
          go_ret
          exact ⟨by rw [R.out]; rfl, rfl⟩
        · have R : Hid (mayB n z = false) := Lib.hid (decide_eq_false fun h => h4 h.2.2.2)
          go_enter Tryz.func28, Tryz.ntmps28
          go_wp2
          go_ret
          exact ⟨by rw [R.out]; rfl, rfl⟩
      · have R : Hid (mayB n z = false) := Lib.hid (decide_eq_false fun h => h3 h.2.2.1)
        go_enter Tryz.func28, Tryz.ntmps28
        go_wp2
        go_ret
        exact ⟨by rw [R.out]; rfl, rfl⟩
    · have R : Hid (mayB n z = false) := Lib.hid (decide_eq_false fun h => h2 h.2.1)
      go_enter Tryz.func28, Tryz.ntmps28
      go_wp2
      go_ret
      exact ⟨by rw [R.out]; rfl, rfl⟩
  · have R : Hid (mayB n z = false) := Lib.hid (decide_eq_false fun h => h1 h.1)
    go_enter Tryz.func28, Tryz.ntmps28
    go_wp2
    go_ret
    exact ⟨by rw [R.out]; rfl, rfl⟩

section
variable (F E : Nat → Prop) (g : Nat) (s : D) (w : World) (h : Dk w F E g s)
include h
set_option maxHeartbeats 400000 in
theorem off_any : Calls Tryz.prog 17 #[.pointer (some ⟨g, 0, none⟩)] w fun e w' => e = .returned (.bool s.off) ∧ w = w' := by
  obtain ⟨gk, ck, gs, cs, pv, hv, h⟩ := h
  have hc := h.has.cell 5
  simp at hc
  clear h
  go_enter Tryz.func17, Tryz.ntmps17
  go_wp2
  go_ret
  exact ⟨rfl, rfl⟩
set_option maxHeartbeats 400000 in
theorem shape_any : Calls Tryz.prog 67 #[.pointer (some ⟨g, 0, none⟩)] w fun e w' => e = .returned (.tuple #[.int .i64 (s.kept.length : Int), .int .i64 (s.size : Int)]) ∧ ∃ n, w' = w.drewN n := by
  obtain ⟨gk, ck, gs, cs, pv, hv, h⟩ := h
  have hc := h.has.cell 0
  have hc1 := h.has.cell 1
  simp at hc hc1
  clear h
  go_enter Tryz.func67, Tryz.ntmps67
  go_wp2
  go_quiet (fail)
  go_wp2
  go_ret2
  exact ⟨rfl, _, rfl⟩
set_option maxHeartbeats 400000 in
theorem on_any : Calls Tryz.prog 20 #[.pointer (some ⟨g, 0, none⟩)] w fun e w' => e = .returned (.tuple #[]) ∧ DkStep w F E g { s with off := false } w' := by
  obtain ⟨gk, ck, gs, cs, pv, hv, h⟩ := h
  have hc := h.has.cell 5
  have hf := h.has.frozen 5
  simp at hc
  have R : Hid (DkStep w F E g { s with off := false } (w.setCell ⟨g, 5, none⟩ (.bool false))) := by
    have k : Only (fun i => i = g) w (w.setCell ⟨g, 5, none⟩ (.bool false)) := Only.setCell (Only.refl (fun i => i = g) w) (p := ⟨g, 5, none⟩) (fun _ => rfl) _
    have hpg : ∀ i, pv.ownBlock = some i → i ≠ g := fun i hi e => owns_ne h.pend h.has (by decide) (by rw [hi, e])
    refine ⟨F, E, ⟨gk, ck, gs, cs, pv, hv, ?_⟩, fun _ h => .inl h, fun _ h => .inl h, k.mono (fun i _ e => by rw [e]; exact h.fg)⟩
    exact ⟨h.has.set 5 _, h.kept.only k (fun e => h.neK e.symm), h.seen.only k (fun e => h.neS e.symm), owns_only h.pend k (fun i hi e => hpg i hi e), h.keep.only k (fun i _ hE e => h.apart i hE (by rw [e]; exact h.fg)),
      h.ne, h.fg, h.fk, h.fs, h.fp, fun i hi => Nat.lt_of_lt_of_le (h.lt i hi) k.size, fun i hi => Nat.lt_of_lt_of_le (h.lte i hi) k.size, h.apart, h.ok.on⟩
  clear h
  go_enter Tryz.func20, Tryz.ntmps20
  go_wp2
  go_end0
  exact ⟨rfl, R.out⟩
end
end Go.Proofs.YtnhojcldeloigaaGreat
