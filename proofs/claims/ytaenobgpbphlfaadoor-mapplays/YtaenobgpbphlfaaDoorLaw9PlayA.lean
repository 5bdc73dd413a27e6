/-
  MapPlays: between two acts; a round; each call of a round.
-/
import Derived.Test.YtaenobgpbphlfaaDoorLaw9Put
import Derived.Test.YtaenobgpbphlfaaDoorOpenActs9
namespace Go.Proofs.YtaenobgpbphlfaaDoor
open Go.RowKit Go.Lib
set_option maxRecDepth 100000

theorem bne_all {a b : Bool} (h : a = b) : (a != b) = false := by subst h; cases a <;> rfl
theorem run_or (L : List Bool) (n : Nat) : (∃ a, RunIs L n a) ∨ RunNone L n := by
  by_cases h : ∃ a, Fits L n a
  · refine .inl ?_
    obtain ⟨a, ha⟩ := h
    have : ∀ m a, a ≤ m → Fits L n a → ∃ a, RunIs L n a := by
      intro m
      induction m with
      | zero =>
        intro a h1 h2
        have : a = 0 := by omega
        subst this
        exact ⟨0, h2, fun b hb => absurd hb (by omega)⟩
      | succ m ih =>
        intro a h1 h2
        by_cases h3 : ∃ b, b < a ∧ Fits L n b
        · obtain ⟨b, h4, h5⟩ := h3
          exact ih b (by omega) h5
        · exact ⟨a, h2, fun b hb hf => h3 ⟨b, hb, hf⟩⟩
    exact this a a (Nat.le_refl _) ha
  · exact .inr (fun b hf => h ⟨b, hf⟩)

theorem made_false9 (n : Nat) : (madeCells (Value.bool false).cells (n * 1)).toList = bvs (List.replicate n false) := by
  rw [Nat.mul_one]
  apply List.ext_getElem?
  intro j
  by_cases hj : j < n
  · simp [madeCells, hj, Nat.mod_one, Value.cells, bvs]
  · simp [madeCells, hj, bvs]
/-- Marks, made. -/
theorem make_marks (n : Nat) (hn : n ≤ 1000000) (w : World) : ∃ w', (Instr.makeSlice 28 (.int .i64 (n : Int)) (.int .i64 (n : Int))).run Tryd.prog w = .ok (.slice (some ⟨w.heap.size, 0, none⟩) n n) w' ∧
    w'.ownsRow w.heap.size 4 1 (.slice (some ⟨w.heap.size, 0, none⟩) n n) n (bvs (List.replicate n false)) ∧ Calm w w' := by
  obtain ⟨i0, hi0, hz0, hz1, hz2⟩ := info_parts Tryd.infoBool9
  obtain ⟨w1, hmk, o1, g1⟩ := run_make_full (P := Tryd.prog) w w.heap.size 28 4 i0 (.bool false) 1 Tryd.underlying28 hi0 hz0 hz1 .i64 .i64 n (by rw [hz2]; omega) (by simp [maxLen]; omega) (Nat.le_refl _)
  rw [made_false9] at o1
  exact ⟨w1, hmk, o1, (Only.of_grown g1).mono (fun i _ h => by cases h)⟩
theorem set_in9 (L : List Bool) (k : Nat) (hk : k < L.length) : (thereB L (k : Int) && !hasB L (k : Int)) = !L.getD k false ∧ markL L (k : Int) true = putL L k true 1 := by
  have ht : thereB L (k : Int) = true := by rw [thereB_nat]; exact decide_eq_true hk
  unfold hasB markL
  rw [ht]
  exact ⟨by simp, rfl⟩
theorem clear_in9 (L : List Bool) (k : Nat) (hk : k < L.length) : hasB L (k : Int) = L.getD k false ∧ markL L (k : Int) false = putL L k false 1 := by
  have ht : thereB L (k : Int) = true := by rw [thereB_nat]; exact decide_eq_true hk
  unfold hasB markL
  rw [ht]
  exact ⟨by simp, rfl⟩
theorem not_in9 (L : List Bool) (i : Int) (hi : ¬ (0 ≤ i ∧ i < (L.length : Int))) : thereB L i = false ∧ hasB L i = false ∧ (∀ v, markL L i v = L) := by
  have ht : thereB L i = false := decide_eq_false hi
  unfold hasB markL
  rw [ht]
  exact ⟨rfl, rfl, fun _ => rfl⟩
/-- Between two acts: the map, and the law's row of marks, which is its own. -/
structure PH (w : World) (n g gw cw : Nat) (L : List Bool) (rv : Value) (W : World) : Prop where
  lm : Lm w g gw cw L W
  row : BRow W w.heap.size rv L
  len : L.length = n
/-- Within a round: the map's marks M, the row's L, the act's box. -/
structure PR (w : World) (n g gw cw : Nat) (M L : List Bool) (rv : Value) (bx : Nat) (op z : Int) (W : World) : Prop where
  lm : Lm w g gw cw M W
  row : BRow W w.heap.size rv L
  box : Has W bx 30 #[.int .i64 op, .int .i64 z]
  l1 : M.length = n
  l2 : L.length = n
section
variable {w W W' : World} {n g gw cw bx : Nat} {M M' L L' : List Bool} {rv v' : Value} {op z : Int}
theorem row_far (h : BRow W w.heap.size rv L) (m : Mp W g gw cw M) : ∀ i, rv.ownBlock = some i → i ≠ gw := fun i hi e => by
  subst e
  obtain ⟨ws, a⟩ := m
  rcases id h.2 with ⟨rfl, _⟩ | ⟨g1, cap, cur, rfl, _, hh, _⟩
  · cases hi
  · have : g1 = i := by simpa [Value.ownBlock] using hi
    subst this
    exact a.row.ne_has (g' := g1) (t := 4) (cs := cur) hh (by decide) rfl
theorem box_far (h : Has W bx 30 #[.int .i64 op, .int .i64 z]) (m : Mp W g gw cw M) : bx ≠ gw := fun e => by
  obtain ⟨ws, a⟩ := m
  exact a.row.ne_has h (by decide) e
theorem PH.round (h : PH w n g gw cw L rv W) (op z : Int) : PR w n g gw cw L L rv W.heap.size op z (W.alloc (.cells #[.int .i64 op, .int .i64 z] 30)) := by
  have k : Calm W (W.alloc (.cells #[.int .i64 op, .int .i64 z] 30)) := (Only.refl _ W).alloc _
  exact ⟨h.lm.calm k, h.row.only k (fun _ _ h => h), Has.new _ _ _, h.len, h.len⟩
theorem PR.back (h : PR w n g gw cw L L rv bx op z W) : PH w n g gw cw L rv W := ⟨h.lm, h.row, h.l2⟩
theorem PR.cells (h : PR w n g gw cw M L rv bx op z W) : W.cell? ⟨bx, 0, none⟩ = some (.int .i64 op) ∧ W.cell? ⟨bx, 1, none⟩ = some (.int .i64 z) := by
  have c0 := h.box.cell 0
  have c1 := h.box.cell 1
  exact ⟨by simpa using c0, by simpa using c1⟩
theorem PR.calm (h : PR w n g gw cw M L rv bx op z W) (k : Calm W W') : PR w n g gw cw M L rv bx op z W' :=
  ⟨h.lm.calm k, h.row.only k (fun _ _ h => h), h.box.only k (fun h => h), h.l1, h.l2⟩
theorem calm_of {a b : World} (k : Below a.heap.size a b) : Calm a b := (Only.of_below k).mono (fun _ hi h => absurd hi (Nat.not_lt_of_le h))
theorem PR.step (h : PR w n g gw cw M L rv bx op z W) (k : MpStep W g gw cw M' W') (hl : M'.length = n) : PR w n g gw cw M' L rv bx op z W' :=
  ⟨h.lm.step k, h.row.only k.2 (fun i hi => row_far h.row h.lm.mp i hi), h.box.only k.2 (box_far h.box h.lm.mp), hl, h.l2⟩
theorem PR.put (h : PR w n g gw cw M L rv bx op z W) (k : PInv9 W v' L' W') (hl : L'.length = n) : PR w n g gw cw M L' v' bx op z W' := by
  have q := h.calm k.2
  exact ⟨q.lm, owns_base k.1 h.lm.low.size, q.box, q.l1, hl⟩
/-- Another map goes on; the elder one is still there. -/
structure PT (w : World) (n g gw cw g2 gw2 cw2 : Nat) (M M2 L : List Bool) (rv : Value) (bx : Nat) (op z : Int) (W : World) : Prop where
  old : Mp W g gw cw M
  new : PR w n g2 gw2 cw2 M2 L rv bx op z W
  h1 : g2 ≠ gw
  h2 : gw2 ≠ gw
  low : w.heap.size ≤ gw
theorem PR.twin {ws : List Nat} {v : Value} (h : PR w n g gw cw M L rv bx op z W) (k : Born W M' ws v W') (hl : M'.length = n) : ∃ g2 gw2 cw2, v = .pointer (some ⟨g2, 0, none⟩) ∧ PT w n g gw cw g2 gw2 cw2 M M' L rv bx op z W' := by
  obtain ⟨g2, gw2, cw2, rfl, l, q1, q2, b⟩ := Lm.born k h.lm.low
  have c := calm_of b
  obtain ⟨_, l2, _⟩ := h.lm.mp.lt
  exact ⟨g2, gw2, cw2, rfl, h.lm.mp.calm c, ⟨l, h.row.only c (fun _ _ h => h), h.box.only c (fun h => h), hl, h.l2⟩, by omega, by omega, h.lm.hw⟩
theorem PT.step {g2 gw2 cw2 : Nat} {M2 : List Bool} (h : PT w n g gw cw g2 gw2 cw2 M M2 L rv bx op z W) (k : MpStep W g gw cw M' W') : PT w n g gw cw g2 gw2 cw2 M' M2 L rv bx op z W' := by
  have hs := h.new.lm.low.size
  refine ⟨k.1, ⟨⟨h.new.lm.mp.only k.2 h.h1 h.h2, h.new.lm.low.trans (k.2.below hs (fun i hi e => by have := h.low; omega)), h.new.lm.hg, h.new.lm.hw⟩, h.new.row.only k.2 (fun i hi => row_far h.new.row h.old i hi), h.new.box.only k.2 (box_far h.new.box h.old), h.new.l1, h.new.l2⟩, h.h1, h.h2, h.low⟩

/-! ### the calls -/
variable (hT : Tz w)
include hT
theorem pr_run (h : PR w n g gw cw M L rv bx op z W) (m a : Nat) (h1 : 1 ≤ m) (h2 : m ≤ 9223372036854775807) (hr : RunIs M m a) :
    Calls Tryd.prog 11 #[.pointer (some ⟨g, 0, none⟩), .int .i64 (m : Int)] W fun e w' => e = .returned (.tuple #[.int .i64 (a : Int), .int .i64 0]) ∧ PR w n g gw cw (putL M a true m) L rv bx op z w' :=
  (run_any g gw cw M W h.lm.mp (h.lm.tz hT) m h1 h2).mono fun e w' hh => by
    rcases hh with ⟨b, hb, rfl, hs⟩ | ⟨hn, _, _⟩
    · obtain rfl := hb.uniq hr
      exact ⟨rfl, h.step hs (by rw [putL_length]; exact h.l1)⟩
    · exact absurd hr.fits (hn a)
theorem pr_runno (h : PR w n g gw cw M L rv bx op z W) (m : Nat) (h1 : 1 ≤ m) (h2 : m ≤ 9223372036854775807) (hr : RunNone M m) :
    Calls Tryd.prog 11 #[.pointer (some ⟨g, 0, none⟩), .int .i64 (m : Int)] W fun e w' => e = .returned (.tuple #[.int .i64 0, .int .i64 14]) ∧ PR w n g gw cw M L rv bx op z w' :=
  (run_any g gw cw M W h.lm.mp (h.lm.tz hT) m h1 h2).mono fun e w' hh => by
    rcases hh with ⟨b, hb, _, _⟩ | ⟨_, rfl, hs⟩
    · exact absurd hb.fits (hr b)
    · exact ⟨rfl, h.step hs h.l1⟩
theorem pr_take (h : PR w n g gw cw M L rv bx op z W) (a : Nat) (hr : RunIs M 1 a) :
    Calls Tryd.prog 8 #[.pointer (some ⟨g, 0, none⟩)] W fun e w' => e = .returned (.tuple #[.int .i64 (a : Int), .int .i64 0]) ∧ PR w n g gw cw (putL M a true 1) L rv bx op z w' :=
  (take9_any g gw cw M W h.lm.mp (h.lm.tz hT)).mono fun e w' hh => by
    rcases hh with ⟨b, hb, rfl, hs⟩ | ⟨hn, _, _⟩
    · obtain rfl := hb.uniq hr
      exact ⟨rfl, h.step hs (by rw [putL_length]; exact h.l1)⟩
    · exact absurd hr.fits (hn a)
theorem pr_takeno (h : PR w n g gw cw M L rv bx op z W) (hr : RunNone M 1) :
    Calls Tryd.prog 8 #[.pointer (some ⟨g, 0, none⟩)] W fun e w' => e = .returned (.tuple #[.int .i64 0, .int .i64 14]) ∧ PR w n g gw cw M L rv bx op z w' :=
  (take9_any g gw cw M W h.lm.mp (h.lm.tz hT)).mono fun e w' hh => by
    rcases hh with ⟨b, hb, _, _⟩ | ⟨_, rfl, hs⟩
    · exact absurd hb.fits (hr b)
    · exact ⟨rfl, h.step hs h.l1⟩
/-- The elder map is filled. -/
theorem pt_run {g2 gw2 cw2 : Nat} {M2 : List Bool} (h : PT w n g gw cw g2 gw2 cw2 M M2 L rv bx op z W) :
    Calls Tryd.prog 11 #[.pointer (some ⟨g, 0, none⟩), .int .i64 1] W fun e w' => ∃ v M', e = .returned v ∧ PT w n g gw cw g2 gw2 cw2 M' M2 L rv bx op z w' :=
  (run_any g gw cw M W h.old (h.new.lm.tz hT) 1 (by decide) (by decide)).mono fun e w' hh => by
    rcases hh with ⟨b, hb, rfl, hs⟩ | ⟨_, rfl, hs⟩
    · exact ⟨_, _, rfl, h.step hs⟩
    · exact ⟨_, _, rfl, h.step hs⟩
omit hT
theorem pt_set {g2 gw2 cw2 : Nat} {M2 : List Bool} (h : PT w n g gw cw g2 gw2 cw2 M M2 L rv bx op z W) :
    Calls Tryd.prog 12 #[.pointer (some ⟨g, 0, none⟩), .int .i64 0] W fun e w' => ∃ v, e = .returned v ∧ PR w n g2 gw2 cw2 M2 L rv bx op z w' :=
  (set_any g gw cw M W h.old 0).mono fun _ _ hh => ⟨_, hh.1, (h.step hh.2).new⟩
theorem pr_set (h : PR w n g gw cw L L rv bx op z W) (i : Int) :
    Calls Tryd.prog 12 #[.pointer (some ⟨g, 0, none⟩), .int .i64 i] W fun e w' => e = .returned (.bool (thereB L i && !hasB L i)) ∧ PR w n g gw cw (markL L i true) L rv bx op z w' :=
  (set_any g gw cw L W h.lm.mp i).mono fun _ _ hh => ⟨hh.1, h.step hh.2 (by rw [markL_length]; exact h.l1)⟩
theorem pr_clear (h : PR w n g gw cw L L rv bx op z W) (i : Int) :
    Calls Tryd.prog 13 #[.pointer (some ⟨g, 0, none⟩), .int .i64 i] W fun e w' => e = .returned (.bool (hasB L i)) ∧ PR w n g gw cw (markL L i false) L rv bx op z w' :=
  (clear_any g gw cw L W h.lm.mp i).mono fun _ _ hh => ⟨hh.1, h.step hh.2 (by rw [markL_length]; exact h.l1)⟩
theorem pr_twin (h : PR w n g gw cw L L rv bx op z W) :
    Calls Tryd.prog 14 #[.pointer (some ⟨g, 0, none⟩)] W fun e w' => ∃ g2 gw2 cw2, e = .returned (.pointer (some ⟨g2, 0, none⟩)) ∧ PT w n g gw cw g2 gw2 cw2 L L L rv bx op z w' :=
  (twin_any9 g gw cw L W h.lm.mp).mono fun e w' hh => by
    obtain ⟨v, ws, rfl, hb⟩ := hh
    obtain ⟨g2, gw2, cw2, rfl, t⟩ := h.twin hb h.l1
    exact ⟨g2, gw2, cw2, rfl, t⟩
theorem pr_bytes (h : PR w n g gw cw L L rv bx op z W) :
    Calls Tryd.prog 16 #[.pointer (some ⟨g, 0, none⟩)] W fun e w' => ∃ v bs, e = .returned v ∧ Tells9 L bs ∧ w'.ownsRow W.heap.size 5 1 v bs.length (b8s bs) ∧ PR w n g gw cw L L rv bx op z w' :=
  (bytes_any9 g gw cw L W h.lm.mp).mono fun e w' hh => by
    obtain ⟨v, rfl, bs, t, o, k⟩ := hh
    exact ⟨v, bs, rfl, t, o, h.calm k⟩
theorem pr_load {B : Nat} {bs : List UInt8} {v : Value} (h : PR w n g gw cw L L rv bx op z W) (t : Tells9 L bs) (o : W.ownsRow B 5 1 v bs.length (b8s bs)) :
    Calls Tryd.prog 15 #[v, .int .i64 (n : Int)] W fun e w' => ∃ g2 gw2 cw2, e = .returned (.tuple #[.pointer (some ⟨g2, 0, none⟩), .int .i64 0]) ∧ PR w n g2 gw2 cw2 L L rv bx op z w' := by
  obtain ⟨_, _, _, h1, h2⟩ := h.lm.mp.lt
  have hm := t.may h1
  rw [h.l1] at hm h1 h2
  refine (load_yes B W.heap.size v bs W (owns_SlIs o) n h1 h2 hm.1).mono fun e w' hh => ?_
  obtain ⟨u, ws, rfl, hb⟩ := hh
  rw [hm.2] at hb
  obtain ⟨g2, gw2, cw2, rfl, tt⟩ := h.twin hb h.l1
  exact ⟨g2, gw2, cw2, rfl, tt.new⟩
theorem pr_put (h : PR w n g gw cw M L rv bx op z W) (h1 : 1 ≤ n) (h2 : n ≤ 300) (a m : Nat) (x : Bool) (hf : a + m ≤ n) :
    Calls Tryd.prog 10 #[rv, .int .i64 (a : Int), .int .i64 (m : Int), .bool x] W fun e w' => ∃ v', e = .returned v' ∧ PR w n g gw cw M (putL L a x m) v' bx op z w' := by
  refine (lawput_any _ rv L a m x W h.row (by rw [h.l2]; exact h1) (by rw [h.l2]; exact h2) (by rw [h.l2]; exact hf)).mono fun e w' hh => ?_
  obtain ⟨v', rfl, k⟩ := hh
  exact ⟨v', rfl, h.put k (by rw [putL_length]; exact h.l2)⟩
theorem pr_free (h : PR w n g gw cw M L rv bx op z W) (h1 : 1 ≤ n) (h2 : n ≤ 300) (m a : Nat) (h3 : 1 ≤ m) (h4 : m ≤ 300) (hr : RunIs L m a) :
    Calls Tryd.prog 9 #[rv, .int .i64 (m : Int)] W fun e w' => e = .returned (.int .i64 (a : Int)) ∧ W = w' :=
  (lawfree_any _ rv L m W h.row (by rw [h.l2]; exact h1) (by rw [h.l2]; exact h2) h3 h4).mono fun e w' hh => by
    rcases hh with ⟨b, hb, rfl, rfl⟩ | ⟨hn, _, _⟩
    · obtain rfl := hb.uniq hr
      exact ⟨rfl, rfl⟩
    · exact absurd hr.fits (hn a)
theorem pr_freeno (h : PR w n g gw cw M L rv bx op z W) (h1 : 1 ≤ n) (h2 : n ≤ 300) (m : Nat) (h3 : 1 ≤ m) (h4 : m ≤ 300) (hr : RunNone L m) :
    Calls Tryd.prog 9 #[rv, .int .i64 (m : Int)] W fun e w' => e = .returned (.int .i64 (-1)) ∧ W = w' :=
  (lawfree_any _ rv L m W h.row (by rw [h.l2]; exact h1) (by rw [h.l2]; exact h2) h3 h4).mono fun e w' hh => by
    rcases hh with ⟨b, hb, _, _⟩ | ⟨_, rfl, rfl⟩
    · exact absurd hb.fits (hr b)
    · exact ⟨rfl, rfl⟩
/-- What the row has at a place. -/
theorem PR.mark (h : PR w n g gw cw M L rv bx op z W) (h1 : 1 ≤ n) {k : Nat} (hk : k < n) : ∃ G c, rv = .slice (some ⟨G, 0, none⟩) n c ∧ W.cell? ⟨G, k, none⟩ = some (.bool (L.getD k false)) := by
  have hl := h.l2
  obtain ⟨G, c, rfl, _, _⟩ := owns_some h.row (by rw [hl]; exact h1)
  refine ⟨G, c, by rw [hl], BRow.cell h.row (by rw [hl]; exact hk)⟩
theorem PR.mark2 {G c : Nat} (h : PR w n g gw cw M L (.slice (some ⟨G, 0, none⟩) n c) bx op z W) {k : Nat} (hk : k < n) : W.cell? ⟨G, k, none⟩ = some (.bool (L.getD k false)) := by
  have hr := h.row
  have hl := h.l2
  subst hl
  exact BRow.cell hr hk
theorem PH.mark2 {G c : Nat} (h : PH w n g gw cw L (.slice (some ⟨G, 0, none⟩) n c) W) {k : Nat} (hk : k < n) : W.cell? ⟨G, k, none⟩ = some (.bool (L.getD k false)) := by
  have hr := h.row
  have hl := h.len
  subst hl
  exact BRow.cell hr hk
theorem PH.form (h : PH w n g gw cw L rv W) (h1 : 1 ≤ n) : ∃ G c, rv = .slice (some ⟨G, 0, none⟩) n c := by
  have hl := h.len
  obtain ⟨G, c, rfl, _, _⟩ := owns_some h.row (by rw [hl]; exact h1)
  exact ⟨G, c, by rw [hl]⟩
theorem PH.calm (h : PH w n g gw cw L rv W) (k : Calm W W') : PH w n g gw cw L rv W' := ⟨h.lm.calm k, h.row.only k (fun _ _ h => h), h.len⟩
theorem PH.has (h : PH w n g gw cw L rv W) {k : Nat} (hk : k < n) (m : Nat) : Calls Tryd.prog 17 #[.pointer (some ⟨g, 0, none⟩), .int .i64 (k : Int)] (W.drewN m) fun e w' => e = .returned (.bool (L.getD k false)) ∧ w' = W.drewN m := by
  have := has_any g gw cw L (k : Int) (W.drewN m) (h.lm.mp.calm (Calm.drewN _ _))
  rw [(clear_in9 L k (by rw [h.len]; exact hk)).1] at this
  exact this.mono fun e w' hh => ⟨hh.1, hh.2.symm⟩
theorem PH.hasno (h : PH w n g gw cw L rv W) (i : Int) (hi : ¬ (0 ≤ i ∧ i < (n : Int))) : Calls Tryd.prog 17 #[.pointer (some ⟨g, 0, none⟩), .int .i64 i] W fun e w' => e = .returned (.bool false) ∧ W = w' := by
  have := has_any g gw cw L i W h.lm.mp
  rwa [(not_in9 L i (by rw [h.len]; exact hi)).2.1] at this
theorem PH.free (h : PH w n g gw cw L rv W) : Calls Tryd.prog 18 #[.pointer (some ⟨g, 0, none⟩)] W fun e w' => e = .returned (.int .i64 (cnt (fun i => !L.getD i false) n : Int)) ∧ W = w' := by
  have := free_any9 g gw cw L W h.lm.mp
  unfold freeN at this
  rwa [h.len] at this
end
end Go.Proofs.YtaenobgpbphlfaaDoor
