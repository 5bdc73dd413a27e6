/-
  Package bitmap: a map in memory; upwards, New, there, Has.
-/
import Derived.Test.YtaenobgpbphlfaaDoorMapB
import Derived.Test.YtaenobgpbphlfaaDoorRowIs
import Derived.OwnWalk
import Derived.Deep.QuietTactic
import Derived.BigQuiet
import Derived.Laws.ShiftsVarLaws
namespace Go.Proofs.YtaenobgpbphlfaaDoor
open Go.RowKit Go.Lib
set_option maxRecDepth 100000

/-! ### words as values -/
def u64v (x : Nat) : Value := .int .u64 (x : Int)
def u64s (ws : List Nat) : List Value := ws.map u64v
theorem u64s_length (ws : List Nat) : (u64s ws).length = ws.length := by simp [u64s]
theorem u64s_get {ws : List Nat} {i : Nat} (h : i < ws.length) : (u64s ws)[i]? = some (u64v (ws.getD i 0)) := by simp [u64s, h]
theorem u64s_set (ws : List Nat) (i x : Nat) : u64s (ws.set i x) = (u64s ws).set i (u64v x) := by simp [u64s, List.map_set]
theorem u64s_one (ws : List Nat) : ∀ u ∈ u64s ws, u.oneCell' = true := by
  intro u hu
  obtain ⟨c, _, rfl⟩ := List.mem_map.1 hu
  rfl
theorem u64s_zero (n : Nat) : u64s (List.replicate n 0) = List.replicate n (.int .u64 0) := by simp [u64s, u64v]
theorem Tryd.infoU64 : (Tryd.prog.info? 51).map (fun i => (i.zero, i.size, i.bytes)) = some (some (.int .u64 0), 1, 8) := by kernel_rfl

/-- A row of words of one's own. -/
def WRow (w : World) (g c : Nat) (ws : List Nat) : Prop := w.ownsRow 0 51 1 (.slice (some ⟨g, 0, none⟩) ws.length c) ws.length (u64s ws)
section
variable {a b w : World} {S : Nat → Prop} {g c : Nat} {ws : List Nat}
theorem WRow.only (h : WRow a g c ws) (k : Only S a b) (hn : ¬ S g) : WRow b g c ws := owns_only h k (fun i hi => by
  have : g = i := by simpa [Value.ownBlock] using hi
  exact this ▸ hn)
theorem WRow.lt (h : WRow w g c ws) : g < w.heap.size := (owns_lt h rfl).2
theorem WRow.cell (h : WRow w g c ws) {i : Nat} (hi : i < ws.length) : w.cell? ⟨g, i, none⟩ = some (.int .u64 (ws.getD i 0 : Int)) := by
  rw [World.ownsRow.cellAt h i (by omega)]
  exact u64s_get hi
theorem WRow.frozen (h : WRow w g c ws) (i : Nat) : w.frozen? ⟨g, i, none⟩ = false := World.ownsRow.frozenAt h i
theorem WRow.set (h : WRow w g c ws) (i x : Nat) : WRow (w.setCell ⟨g, i, none⟩ (.int .u64 (x : Int))) g c (ws.set i x) := by
  have := (World.ownsRow.stored h i (u64v x)).1
  unfold WRow
  rw [List.length_set, u64s_set]
  exact this
theorem WRow.ne_has {g' : Nat} {t : TypeId} {cs : Array Value} (h : WRow w g c ws) (hg : Has w g' t cs) (hne : 51 ≠ t) : g' ≠ g := fun e => owns_ne h hg hne (by rw [e]; rfl)
end

/-- A map at block g, its words at gw: these marks. -/
structure MapAt (w : World) (g gw cw : Nat) (L : List Bool) (ws : List Nat) : Prop where
  has : Has w g 49 #[.int .i64 (L.length : Int), .slice (some ⟨gw, 0, none⟩) ws.length cw]
  row : WRow w gw cw ws
  bm : Bm L ws
  pos : 1 ≤ L.length
  most : L.length ≤ 65536
def Mp (w : World) (g gw cw : Nat) (L : List Bool) : Prop := ∃ ws, MapAt w g gw cw L ws
section
variable {a b w : World} {S : Nat → Prop} {g gw cw : Nat} {L : List Bool} {ws : List Nat}
theorem MapAt.ne (h : MapAt w g gw cw L ws) : g ≠ gw := h.row.ne_has h.has (by decide)
theorem MapAt.only (h : MapAt a g gw cw L ws) (k : Only S a b) (h1 : ¬ S g) (h2 : ¬ S gw) : MapAt b g gw cw L ws := ⟨h.has.only k h1, h.row.only k h2, h.bm, h.pos, h.most⟩
theorem MapAt.c0 (h : MapAt w g gw cw L ws) : w.cell? ⟨g, 0, none⟩ = some (.int .i64 (L.length : Int)) := by
  have := h.has.cell 0
  simpa using this
theorem MapAt.c1 (h : MapAt w g gw cw L ws) : w.cell? ⟨g, 1, none⟩ = some (.slice (some ⟨gw, 0, none⟩) ws.length cw) := by
  have := h.has.cell 1
  simpa using this
theorem MapAt.word (h : MapAt w g gw cw L ws) {i : Nat} (hi : i < L.length) : w.cell? ⟨gw, i / 64, none⟩ = some (.int .u64 (ws.getD (i / 64) 0 : Int)) := h.row.cell (h.bm.len1 hi)
theorem Mp.only (h : Mp a g gw cw L) (k : Only S a b) (h1 : ¬ S g) (h2 : ¬ S gw) : Mp b g gw cw L := by
  obtain ⟨ws, h⟩ := h
  exact ⟨ws, h.only k h1 h2⟩
theorem Mp.lt (h : Mp w g gw cw L) : g < w.heap.size ∧ gw < w.heap.size ∧ g ≠ gw ∧ 1 ≤ L.length ∧ L.length ≤ 65536 := by
  obtain ⟨ws, h⟩ := h
  exact ⟨h.has.lt, h.row.lt, h.ne, h.pos, h.most⟩
end

set_option maxHeartbeats 400000 in
theorem upwards_any (n d : Nat) (hn : n ≤ 1000000) (h1 : 1 ≤ d) (hd : d ≤ 1000000) (w : World) : Calls Tryd.prog 19 #[.int .i64 (n : Int), .int .i64 (d : Int)] w fun e w' => e = .returned (.int .i64 (((n + d - 1) / d : Nat) : Int)) ∧ w = w' := by
  have n0 : ¬ ((d : Int) = 0) := by omega
  have R : Hid (((n : Int) + (d : Int) - 1) / (d : Int) = (((n + d - 1) / d : Nat) : Int)) := Lib.hid (by
    have e : ((n + d - 1 : Nat) : Int) = (n : Int) + (d : Int) - 1 := by omega
    rw [Int.natCast_ediv, e])
  go_enter Tryd.func19, Tryd.ntmps19
  go_wp2
  go_ret
  exact ⟨congrArg (fun x => Ending.returned (.int .i64 x)) R.out, rfl⟩

/-- Is there a place i? -/
def thereB (L : List Bool) (i : Int) : Bool := decide (0 ≤ i ∧ i < (L.length : Int))
/-- What Has answers. -/
def hasB (L : List Bool) (i : Int) : Bool := thereB L i && L.getD i.toNat false
set_option maxHeartbeats 400000 in
theorem there_any (g gw cw : Nat) (L : List Bool) (i : Int) (w : World) (h : Mp w g gw cw L) : Calls Tryd.prog 22 #[.pointer (some ⟨g, 0, none⟩), .int .i64 i] w fun e w' => e = .returned (.bool (thereB L i)) ∧ w = w' := by
  obtain ⟨ws, h⟩ := h
  have c0 := h.c0
  clear h
  by_cases h0 : 0 ≤ i
  · by_cases h1 : i < (L.length : Int)
    · have R : Hid (thereB L i = true) := Lib.hid (decide_eq_true ⟨h0, h1⟩)
      go_enter Tryd.func22, Tryd.ntmps22
      go_wp2
      go_ret
      exact ⟨by rw [R.out]; rfl, rfl⟩
    · have R : Hid (thereB L i = false) := Lib.hid (decide_eq_false fun h => h1 h.2)
      have d1 : decide (i < (L.length : Int)) = false := decide_eq_false h1
      go_enter Tryd.func22, Tryd.ntmps22
      go_wp2
      go_ret
      exact ⟨by rw [R.out]; rfl, rfl⟩
  · have R : Hid (thereB L i = false) := Lib.hid (decide_eq_false fun h => h0 h.1)
    have d1 : decide (0 ≤ i) = false := decide_eq_false h0
    go_enter Tryd.func22, Tryd.ntmps22
    go_wp2
    go_ret
    exact ⟨by rw [R.out]; rfl, rfl⟩

theorem thereB_nat (L : List Bool) (i : Nat) : thereB L (i : Int) = decide (i < L.length) := by
  unfold thereB
  exact decide_eq_decide.2 ⟨fun h => by omega, fun h => ⟨by omega, by omega⟩⟩
theorem thereB_yes {L : List Bool} {i : Int} (h : thereB L i = true) : ∃ k : Nat, i = (k : Int) ∧ k < L.length := by
  have := of_decide_eq_true h
  exact ⟨i.toNat, by omega, by omega⟩
/-- A bit of a word, as the program asks for it. -/
theorem shr_and (x c : Nat) (hx : x < 18446744073709551616) : (bits .and .u64 ((x : Int) / 2 ^ c) 1 != 0) = x.testBit c := by
  have e1 : (x : Int) / 2 ^ c = ((x / 2 ^ c : Nat) : Int) := by simp
  have h1 : x / 2 ^ c ≤ x := Nat.div_le_self _ _
  have := u64_and_nat (x / 2 ^ c) 1 (by omega) (by decide)
  rw [bit_and] at this
  rw [e1, show (1 : Int) = ((1 : Nat) : Int) from rfl, this]
  cases x.testBit c <;> rfl
set_option maxHeartbeats 400000 in
theorem has_any (g gw cw : Nat) (L : List Bool) (i : Int) (w : World) (h : Mp w g gw cw L) : Calls Tryd.prog 17 #[.pointer (some ⟨g, 0, none⟩), .int .i64 i] w fun e w' => e = .returned (.bool (hasB L i)) ∧ w = w' := by
  have C := Lib.hid (there_any g gw cw L i w h)
  cases ht : thereB L i with
  | false =>
    have R : Hid (hasB L i = false) := Lib.hid (by unfold hasB; rw [ht]; rfl)
    rw [ht] at C
    clear ht h
    go_enter Tryd.func17, Tryd.ntmps17
    go_wp2_with fail
    refine C.out.mono ?_
    rintro e w' ⟨rfl, rfl⟩
    go_wp2
    go_ret
    exact ⟨by rw [R.out]; rfl, rfl⟩
  | true =>
    rw [ht] at C
    obtain ⟨k, rfl, hk⟩ := thereB_yes ht
    obtain ⟨ws, h⟩ := h
    have c1 := h.c1
    have c2 := h.word hk
    have hl := h.bm.len1 hk
    have hx := h.bm.lt (k / 64)
    have hb := h.bm.bit k
    unfold wbit at hb
    generalize ws.getD (k / 64) 0 = x at *
    have R : Hid (hasB L (k : Int) = x.testBit (k % 64)) := Lib.hid (by unfold hasB; rw [ht, hb]; simp)
    have B := Lib.hid (shr_and x (k % 64) hx)
    have hm := h.most
    clear ht h hb
    go_enter Tryd.func17, Tryd.ntmps17
    go_wp2_with fail
    refine C.out.mono ?_
    rintro e w' ⟨rfl, rfl⟩
    go_wp2
    go_ret
    exact ⟨congrArg (fun x => Ending.returned (.bool x)) (B.out.trans R.out.symm), rfl⟩

theorem made_words (n : Nat) : (madeCells (Value.int .u64 0).cells (n * 1)).toList = u64s (List.replicate n 0) := by
  rw [u64s_zero, Nat.mul_one]
  apply List.ext_getElem?
  intro j
  by_cases hj : j < n
  · simp [madeCells, hj, Nat.mod_one, Value.cells]
  · simp [madeCells, hj]
theorem make_words (n : Nat) (hn : n ≤ 1000000) (w : World) : ∃ w', (Instr.makeSlice 46 (.int .i64 (n : Int)) (.int .i64 (n : Int))).run Tryd.prog w = .ok (.slice (some ⟨w.heap.size, 0, none⟩) n n) w' ∧
    w'.ownsRow w.heap.size 51 1 (.slice (some ⟨w.heap.size, 0, none⟩) n n) n (u64s (List.replicate n 0)) ∧ Only (fun _ => False) w w' ∧ w.heap.size < w'.heap.size := by
  obtain ⟨i0, hi0, hz0, hz1, hz2⟩ := info_parts Tryd.infoU64
  obtain ⟨w1, hmk, o1, g1⟩ := run_make_full (P := Tryd.prog) w w.heap.size 46 51 i0 (.int .u64 0) 1 Tryd.underlying46 hi0 hz0 hz1 .i64 .i64 n (by rw [hz2]; omega) (by simp [maxLen]; omega) (Nat.le_refl _)
  rw [made_words] at o1
  exact ⟨w1, hmk, o1, (Only.of_grown g1).mono (fun i _ h => by cases h), (o1.lt _ rfl).2⟩

/-- A map that was made behind w. -/
def Born (w : World) (L : List Bool) (ws : List Nat) (v : Value) (w' : World) : Prop :=
  ∃ g gw cw, v = .pointer (some ⟨g, 0, none⟩) ∧ MapAt w' g gw cw L ws ∧ w.heap.size ≤ g ∧ w.heap.size ≤ gw ∧ Below w.heap.size w w'
set_option maxHeartbeats 400000 in
theorem new_yes (n : Nat) (h1 : 1 ≤ n) (h2 : n ≤ 65536) (w : World) : Calls Tryd.prog 7 #[.int .i64 (n : Int)] w fun e w' => ∃ v, e = .returned (.tuple #[v, .int .i64 0]) ∧ Born w (List.replicate n false) (List.replicate ((n + 63) / 64) 0) v w' := by
  have C := Lib.hid (upwards_any n 64 (by omega) (by decide) (by decide) w)
  obtain ⟨m, hm⟩ : ∃ m, m = (n + 63) / 64 := ⟨_, rfl⟩
  have e : (n + 64 - 1) / 64 = m := by omega
  rw [e] at C
  obtain ⟨w1, hmk, o1, k1, l1⟩ := make_words m (by omega) w
  have R : Hid (Born w (List.replicate n false) (List.replicate m 0) (.pointer (some ⟨w1.heap.size, 0, none⟩)) (w1.alloc (.cells #[.int .i64 (n : Int), .slice (some ⟨w.heap.size, 0, none⟩) m m] 49))) := by
    refine ⟨w1.heap.size, w.heap.size, m, rfl, ⟨?_, ?_, ?_, by simpa using h1, by simpa using h2⟩, k1.size, Nat.le_refl _, ?_⟩
    · have := Has.new w1 49 #[.int .i64 (n : Int), .slice (some ⟨w.heap.size, 0, none⟩) m m]
      simpa using this
    · have : WRow w1 w.heap.size m (List.replicate m 0) := by
        unfold WRow
        simpa using owns_base o1 (Nat.zero_le _)
      exact this.only ((Only.refl (fun _ => False) w1).alloc _) (fun h => h)
    · rw [hm]
      exact Bm.new n
    · exact (k1.below (Nat.le_refl _) (fun _ _ h => h)).alloc k1.size _
  rw [← hm]
  have d1 : decide ((n : Int) < 1) = false := decide_eq_false (by omega)
  have d2 : decide ((65536 : Int) < (n : Int)) = false := decide_eq_false (by omega)
  clear hm e o1 k1
  go_enter Tryd.func7, Tryd.ntmps7
  go_wp2_with fail
  refine C.out.mono ?_
  rintro e w' ⟨rfl, rfl⟩
  clear C
  go_wp2
  go_ret2
  exact ⟨_, rfl, R.out⟩
set_option maxHeartbeats 400000 in
theorem new_no (n : Int) (h : n < 1 ∨ 65536 < n) (w : World) : Calls Tryd.prog 7 #[.int .i64 n] w fun e w' => e = .returned (.tuple #[.pointer none, .int .i64 1]) ∧ w = w' := by
  by_cases h1 : n < 1
  · clear h
    go_enter Tryd.func7, Tryd.ntmps7
    go_wp2
    go_ret2
    exact ⟨rfl, rfl⟩
  · have h2 : 65536 < n := by omega
    clear h
    go_enter Tryd.func7, Tryd.ntmps7
    go_wp2
    go_ret2
    exact ⟨rfl, rfl⟩
end Go.Proofs.YtaenobgpbphlfaaDoor
