/-
  Package pages: root, holds.
  Package pages: slots.
  Package pages: mustBeThere, over, Open.
  Package pages: Open.
  Package pages: Open, as its callers see it.
  Package pages: lasting.
-/
import Derived.Test.YtnhojcldeloigaaGreatPagesC
import Derived.Test.YtnhojcldeloigaaGreatCopyB
import Derived.Test.YtnhojcldeloigaaGreatDrawn
namespace Go.Proofs.YtnhojcldeloigaaGreat
open Go.RowKit Go.Lib Go.Maps
set_option maxRecDepth 100000

def put2 (l : List UInt8) (i v : Nat) : List UInt8 := (l.set i (UInt8.ofNat v)).set (i + 1) (UInt8.ofNat (v / 256))
theorem put2_length (l : List UInt8) (i v : Nat) : (put2 l i v).length = l.length := by simp [put2]
theorem root_is (z n k l : Nat) (hz : 16 ≤ z) : put2 (put2 (put2 (put2 (cpy z markB) 8 z) 10 n) 12 k) 14 l = rootB z n k l := by
  obtain ⟨m, rfl⟩ : ∃ m, z = 16 + m := ⟨z - 16, by omega⟩
  have e1 : cpy (16 + m) markB = markB ++ (List.replicate 8 0 ++ List.replicate m 0) := by
    rw [cpy, List.take_of_length_le (by simp [markB]; omega), List.replicate_append_replicate]
    congr 2
    simp [markB]
    omega
  have e2 : 16 + m - 16 = m := by omega
  rw [e1, rootB, e2]
  simp [put2, markB, le2, List.replicate]
/-- Two bytes set in a row of one's own. -/
theorem putnumber_own {B g n i v : Nat} {l : List UInt8} {w : World} (h : w.ownsRow B 5 1 (.slice (some ⟨g, 0, none⟩) n n) n (b8s l)) (hn : n ≤ 1000000) (hi : i + 1 < n) :
    Calls Tryz.prog 89 #[.slice (some ⟨g, 0, none⟩) n n, .int .i64 (i : Int), .int .i64 (v : Int)] w fun e w' => e = .returned (.tuple #[]) ∧ w'.ownsRow B 5 1 (.slice (some ⟨g, 0, none⟩) n n) n (b8s (put2 l i v)) ∧ Only (fun j => j = g) w w' := by
  have hl : l.length = n := by have := h.1; rw [b8s_length] at this; omega
  have c0 := World.ownsRow.cellAt h i (by omega)
  have c1 := World.ownsRow.cellAt h (i + 1) (by omega)
  have f0 := World.ownsRow.frozenAt h i
  have f1 := World.ownsRow.frozenAt h (i + 1)
  rw [b8s_get (by omega)] at c0 c1
  refine (putnumber_any g n n i v _ _ w hn hi c0 c1 f0 f1).mono fun e w' hh => ⟨hh.1, ?_⟩
  rw [hh.2]
  obtain ⟨o1, k1⟩ := set_byte h i (UInt8.ofNat v)
  obtain ⟨o2, k2⟩ := set_byte o1 (i + 1) (UInt8.ofNat (v / 256))
  exact ⟨o2, k1.trans k2 (fun _ _ h => h)⟩

section
variable (F E G : Nat → Prop) (gd gb : Nat) (s : D) (g : BG) (ch : Nat → Option (List UInt8)) (w : World) (h : St w F E G gd s gb g ch)
include h
/-- New bytes. -/
def NewB (w : World) (z : Nat) (l : List UInt8) (e : Ending) (w' : World) : Prop := e = .returned (.slice (some ⟨w.heap.size, 0, none⟩) z z) ∧ w'.ownsRow w.heap.size 5 1 (.slice (some ⟨w.heap.size, 0, none⟩) z z) z (b8s l) ∧ Below w.heap.size w w'
set_option maxHeartbeats 2000000 in
theorem pgroot_any (l : Nat) : Calls Tryz.prog 70 #[.pointer (some ⟨gb, 0, none⟩), .int .i64 (l : Int)] w (NewB w g.z (rootB g.z g.n g.k l)) := by
  have hok := h.ok
  have hz1 := hok.z1
  have hz2 := hok.z2
  obtain ⟨w1, hmk, o1, k1, s1⟩ := make_bytes g.z (by omega) w
  obtain ⟨w2, hcp, o2, k2⟩ := copy_text (b := markB) o1 (by simp [markB]; omega)
  have hcp : (Builtin.copy_ #[33, 9] 3 #[.slice (some ⟨w.heap.size, 0, none⟩) g.z g.z, .string { data := #[76, 79, 71, 71, 73, 65, 80, 71] }]).run Tryz.prog w1 = .ok (.int .i64 8) w2 := hcp
  have kk2 : Only (fun i => w.heap.size ≤ i) w w2 := (k1.mono (T := fun i => w.heap.size ≤ i) (fun _ _ h => h.elim)).trans k2 (fun i hi e => by omega)
  have hG := h.lts.2.2
  have hS : ∀ w', Only (fun i => w.heap.size ≤ i) w w' → ∃ gm, BkAt w' G gb gd g ch gm := fun w' k => h.bk.only k (fun i hi hs => by have hs : w.heap.size ≤ i := hs; omega)
  obtain ⟨gm, hb0⟩ := h.bk
  have c3 := hb0.cells.2.2.2.1
  obtain ⟨gm2, hb2⟩ := hS w2 kk2
  obtain ⟨_, _, d2, d3, d4, _⟩ := hb2.cells
  have HS := Lib.hid hS
  have O2 := Lib.hid o2
  have K2 := Lib.hid kk2
  have RI := Lib.hid (root_is g.z g.n g.k l (by omega))
  have C1 := Lib.hid (putnumber_own (i := 8) (v := g.z) o2 (by omega) (by omega))
  clear h hok hS o1 k1 o2 k2 kk2 hb0 hb2 s1 hG
  go_enter Tryz.func70, Tryz.ntmps70
  go_wp2_with fail
  refine C1.out.mono ?_
  rintro e w3 ⟨rfl, o3, k3⟩
  have K3 : Hid (Only (fun i => w.heap.size ≤ i) w w3) := K2.out.trans k3 (fun i hi e => by omega)
  obtain ⟨gm3, hb3⟩ := HS.out w3 K3.out
  obtain ⟨_, _, d2, d3, d4, _⟩ := hb3.cells
  have C2 := Lib.hid (putnumber_own (i := 10) (v := g.n) o3 (by omega) (by omega))
  clear hb3 o3 k3 C1 O2 K2
  go_wp2_with fail
  refine C2.out.mono ?_
  rintro e w4 ⟨rfl, o4, k4⟩
  have K4 : Hid (Only (fun i => w.heap.size ≤ i) w w4) := K3.out.trans k4 (fun i hi e => by omega)
  obtain ⟨gm4, hb4⟩ := HS.out w4 K4.out
  obtain ⟨_, _, d2, d3, d4, _⟩ := hb4.cells
  have C3 := Lib.hid (putnumber_own (i := 12) (v := g.k) o4 (by omega) (by omega))
  clear hb4 o4 k4 C2 K3
  go_wp2_with fail
  refine C3.out.mono ?_
  rintro e w5 ⟨rfl, o5, k5⟩
  have K5 : Hid (Only (fun i => w.heap.size ≤ i) w w5) := K4.out.trans k5 (fun i hi e => by omega)
  have C4 := Lib.hid (putnumber_own (i := 14) (v := l) o5 (by omega) (by omega))
  clear o5 k5 C3 K4
  go_wp2_with fail
  refine C4.out.mono ?_
  rintro e w6 ⟨rfl, o6, k6⟩
  have K6 : Hid (Only (fun i => w.heap.size ≤ i) w w6) := K5.out.trans k6 (fun i hi e => by omega)
  rw [RI.out] at o6
  have O6 := Lib.hid o6
  clear o6 k6 C4 K5
  go_wp2
  go_ret
  exact ⟨rfl, O6.out, K6.out.below (Nat.le_refl _) (fun i hi h => by have h : w.heap.size ≤ i := h; omega)⟩
end

set_option maxHeartbeats 400000 in
theorem equal_any (lo hi lo' hi' : Nat) (v v' : Value) (b d : List UInt8) (w : World) (h1 : SlIs w lo hi v b) (h2 : SlIs w lo' hi' v' d) : Calls Tryz.prog 78 #[v, v'] w fun e w' => e = .returned (.bool (decide (b = d))) ∧ w' = w := by
  have r1 := run_str v b lo hi w h1
  have r2 := run_str v' d lo' hi' w h2
  clear h1 h2
  go_enter Tryz.func78, Tryz.ntmps78
  go_wp2
  go_ret
  exact ⟨by
    refine congrArg (fun x => Ending.returned (.bool x)) ?_
    by_cases h : b = d <;> simp [h, strOf_list], rfl⟩
section
variable (F E G : Nat → Prop) (gd gb : Nat) (s : D) (g : BG) (ch : Nat → Option (List UInt8)) (w : World) (h : St w F E G gd s gb g ch)
include h
/-- Which list holds, of what the disk tells. -/
def BG.lst (g : BG) (ls : List (List UInt8)) : Nat := lstOf (g.sec ls 0)
def BG.rooted (g : BG) (ls : List (List UInt8)) : Bool := decide (g.sec ls 0 = rootB g.z g.n g.k (g.lst ls))
set_option maxHeartbeats 2000000 in
theorem pgholds_any (ho : s.off = false) : Calls Tryz.prog 53 #[.pointer (some ⟨gb, 0, none⟩)] w fun e w' =>
    e = (if g.rooted s.seen = true then .returned (.int .i64 (g.lst s.seen : Int)) else .panicked [{ v := .iface 26 (.int .i64 2), recovered := false }]) ∧ Below w.heap.size w w' := by
  have hok := h.ok
  have hz1 := hok.z1
  have hz2 := hok.z2
  have C1 := Lib.hid (pgread_on F E G gd gb s g ch w h 0 ho (by have := hok.room; omega))
  have HS := Lib.hid (fun w' (k : Below w.heap.size w w') => h.below k)
  have RB : Hid (g.rooted s.seen = decide (g.sec s.seen 0 = rootB g.z g.n g.k (lstOf (g.sec s.seen 0)))) := rfl
  have RL : Hid (g.lst s.seen = lstOf (g.sec s.seen 0)) := rfl
  generalize g.rooted s.seen = rb at RB ⊢
  generalize g.lst s.seen = rl at RL ⊢
  generalize g.sec s.seen 0 = x at C1 RB RL
  clear hok h
  go_enter Tryz.func53, Tryz.ntmps53
  go_wp2_with fail
  refine C1.out.mono ?_
  rintro e w1 ⟨A, c, rfl, hx, q1, q2⟩
  have C2 := Lib.hid (listof_any _ _ _ x w1 (by exact q1) (by omega) (by omega))
  have Q1 := Lib.hid q1
  have Q2 := Lib.hid q2
  have HX := Lib.hid hx
  clear hx q1 q2 C1
  go_wp2_with fail
  refine C2.out.mono ?_
  rintro e w2 ⟨rfl, m, rfl⟩
  rw [← RL.out] at C2
  rw [← RL.out] at RB ⊢
  have Q3 : Hid (Below w.heap.size w (w1.drewN m)) := ⟨Q2.out.os, Q2.out.tape, Q2.out.output, Q2.out.size, Q2.out.block⟩
  have C3 := Lib.hid (pgroot_any F E G gd gb s g ch _ (HS.out _ Q3.out) rl)
  clear C2
  go_wp2_with fail
  refine C3.out.mono ?_
  rintro e w3 ⟨rfl, o3, b3⟩
  have X1 := Q1.out.only (S := fun i => (w1.drewN m).heap.size ≤ i) (((Only.refl _ w1).drewN m).trans (Only.of_below b3) (fun _ _ h => h)) (Nat.le_refl _) (fun i h1 h2 hs => by have hs : w1.heap.size ≤ i := hs; omega)
  have C4 := Lib.hid (equal_any _ _ _ _ _ _ _ _ w3 X1 (owns_SlIs (bs := rootB g.z g.n g.k rl) (by have e : (rootB g.z g.n g.k rl).length = g.z := (by have := o3.1; rw [b8s_length] at this; omega); rw [e]; exact o3)))
  have Q4 := Lib.hid (Q3.out.trans (b3.mono Q3.out.size))
  have RD : Hid (rb = decide (x = rootB g.z g.n g.k rl)) := RB
  clear o3 b3 X1 C3 Q1 RB
  go_wp2_with fail
  refine C4.out.mono ?_
  rintro e w4 ⟨rfl, rfl⟩
  rw [← RD.out]
  clear C4
  cases rb
  · go_wp2_with fail
    refine (must_no 2 _).mono ?_
    rintro e w5 ⟨rfl, rfl⟩
    go_wp2
    exact ⟨rfl, rfl, Q4.out⟩
  · go_wp2_with fail
    refine (must_yes 2 _).mono ?_
    rintro e w5 ⟨rfl, rfl⟩
    go_wp2
    go_ret
    exact ⟨rfl, Q4.out⟩
end
end Go.Proofs.YtnhojcldeloigaaGreat
namespace Go.Proofs.YtnhojcldeloigaaGreat
open Go.RowKit Go.Lib Go.Maps
set_option maxRecDepth 100000

/-- The first m sectors of a list. -/
def BG.slotsTo (g : BG) (ls : List (List UInt8)) (l m : Nat) : List UInt8 := ((List.range m).map fun j => g.sec ls (g.listP l + j)).flatten
theorem slots_to (g : BG) (ls : List (List UInt8)) (l : Nat) : g.slots ls l = g.slotsTo ls l g.M := rfl
theorem slotsTo_succ (g : BG) (ls : List (List UInt8)) (l m : Nat) : g.slotsTo ls l (m + 1) = g.slotsTo ls l m ++ g.sec ls (g.listP l + m) := by
  unfold BG.slotsTo
  rw [List.range_succ, List.map_append, List.flatten_append]
  simp
theorem BG.Ok.lp {g : BG} {N : Nat} (ok : g.Ok N) {l : Nat} (hl : l < 2) : g.listP l + g.M ≤ 9 ∧ g.listP l ≤ 5 ∧ 1 ≤ g.listP l := by
  have h1 := ok.ML
  have h2 := ok.L4
  have : l * g.L ≤ 1 * 4 := Nat.mul_le_mul (by omega) h2
  simp only [BG.listP]
  omega
theorem slotsTo_len {g : BG} {N : Nat} {ls : List (List UInt8)} (l m : Nat) (hlen : ∀ i, i < g.n → (g.sec ls i).length = g.z) (ok : g.Ok N) (hl : l < 2) (hm : m ≤ g.M) : (g.slotsTo ls l m).length = m * g.z := by
  have h3 := ok.room
  have hP := ok.lp hl
  unfold BG.slotsTo
  rw [flat_len (z := g.z)]
  · simp
  · intro x hx
    obtain ⟨j, hj, rfl⟩ := List.mem_map.1 hx
    have := List.mem_range.1 hj
    exact hlen _ (by omega)
theorem St.secs {w : World} {F E G : Nat → Prop} {gd gb : Nat} {s : D} {g : BG} {ch : Nat → Option (List UInt8)} (h : St w F E G gd s gb g ch) : ∀ i, i < g.n → (g.sec s.seen i).length = g.z := fun i hi => by
  have hl : g.at_ + i < s.seen.length := by rw [D.seen_length]; have := h.ok.fit; omega
  have : g.sec s.seen i = s.seen[g.at_ + i] := by simp [BG.sec, List.getD, hl]
  rw [this, h.size]
  exact h.dk.lt.2.2.2.2.2.seen _ (List.getElem_mem hl)

/-- At the head of the first loop: what is there so far. -/
def SlInv (w : World) (L : List UInt8) (v : Value) (wr : World) : Prop := wr.ownsRow w.heap.size 5 1 v L.length (b8s L) ∧ Below w.heap.size w wr
theorem SlInv.drewN {w wr : World} {L : List UInt8} {v : Value} (h : SlInv w L v wr) (n : Nat) : SlInv w L v (wr.drewN n) := ⟨h.1, h.2.os, h.2.tape, h.2.output, h.2.size, h.2.block⟩
/-- What slots answers. -/
def SlotsAns (w : World) (k : Nat) (sl : List UInt8) (e : Ending) (w' : World) : Prop :=
  ((okSl k sl ∧ ∃ v, e = .returned v ∧ SlInv w sl v w') ∨
   (¬ okSl k sl ∧ e = .panicked [{ v := .iface 26 (.int .i64 2), recovered := false }])) ∧ Below w.heap.size w w'
section
variable (F E G : Nat → Prop) (gd gb : Nat) (s : D) (g : BG) (ch : Nat → Option (List UInt8)) (w : World) (h : St w F E G gd s gb g ch)
include h
set_option maxHeartbeats 4000000 in
theorem pgslots_any (l : Nat) (hl : l < 2) (ho : s.off = false) : Calls Tryz.prog 52 #[.pointer (some ⟨gb, 0, none⟩), .int .i64 (l : Int)] w (SlotsAns w g.k (g.slots s.seen l)) := by
  have hok := h.ok
  have hz2 := hok.z2
  have hM4 := Nat.le_trans hok.ML hok.L4
  have hn := hok.room
  have hk2 := hok.k2
  have hP := hok.lp hl
  have hsec := h.secs
  obtain ⟨i0, hi0, hy0, hy1, hy2⟩ := info_parts Tryz.info8
  have C0 := Lib.hid (listsectors_any F E G gd gb s g ch w h)
  have CP := Lib.hid (fun w' (k : Below w.heap.size w w') => listplace_any F E G gd gb s g ch w' (h.below k) l (by omega))
  have CR := Lib.hid (fun w' (k : Below w.heap.size w w') (j : Nat) (hj : j < g.M) => pgread_on F E G gd gb s g ch w' (h.below k) (g.listP l + j) ho (by omega))
  have HL := Lib.hid (fun m (hm : m ≤ g.M) => slotsTo_len (ls := s.seen) l m hsec hok hl hm)
  have HC := Lib.hid (slotsTo_succ g s.seen l)
  have I0 : Hid (SlInv w (g.slotsTo s.seen l 0) (.slice none 0 0) w) := ⟨by simpa [b8s, BG.slotsTo] using World.ownsRow_nil _ _ _ _, Below.refl _ _⟩
  rw [slots_to]
  obtain ⟨gm, hb⟩ := h.bk
  have GM := Lib.hid (fun w' (k : Below w.heap.size w w') => (World.cell?_of_block (a := ⟨gb, 4, none⟩) (k.block gb hb.has.lt)).trans hb.cells.2.2.2.2.1)
  generalize g.slotsTo s.seen l = T at I0 HC HL ⊢
  generalize hsq : (fun j => g.sec s.seen (g.listP l + j)) = X at HC CR
  clear h hok hsec hb hsq
  go_enter Tryz.func52, Tryz.ntmps52
  go_wp2_with fail
  refine C0.out.mono ?_
  rintro e w1 ⟨rfl, n, rfl⟩
  have J0 : Hid (SlInv w (T 0) (.slice none 0 0) (w.drewN n)) := I0.out.drewN n
  clear C0 I0
  go_wp2_with fail
  go_loopw [5, 11] (fun u i wr => ∃ (j : Nat) (v : Value), j ≤ g.M ∧ i = .int .i64 j ∧ v = u ∧ Hid (SlInv w (T j) v wr)) (fun _ i _ => g.M - (RowKit.intOf i).toNat)
  case atStart => exact ⟨0, _, Nat.zero_le _, rfl, rfl, J0⟩
  case round =>
    obtain ⟨j, v, hj, rfl, rfl, hrel⟩ := hrel
    clear J0
    by_cases hlt : j < g.M
    · obtain ⟨q1, q2⟩ := hrel.out
      have hs2 := q2.size
      have C1 := Lib.hid (CP.out wr q2)
      have C2 := Lib.hid (CR.out wr q2 j hlt)
      rw [Int.natCast_add] at C2
      have hst := Lib.hid (HC.out j)
      have hl1 := HL.out j (by omega)
      have hjz : j * g.z ≤ 4096 := by
        have := Nat.mul_le_mul (show j ≤ 4 by omega) hz2
        omega
      have i1 : (j : Int) < (g.M : Int) := by omega
      have i2 : (0 : Int) ≤ (j : Int) := by omega
      have Q1 := Lib.hid q1
      have Q2 := Lib.hid q2
      have hTl : (T j).length ≤ 4096 := by omega
      generalize g.sec s.seen (g.listP l + j) = x at C2 hst
      clear q1 q2 hrel hl1 hjz
      go_wp2_with fail
      refine C1.out.mono ?_
      rintro e w2 ⟨rfl, rfl⟩
      clear C1
      go_wp2_with fail
      refine C2.out.mono ?_
      rintro e w2 ⟨A, c, rfl, hx, x1, b2⟩
      have k2 : Only (fun i => wr.heap.size ≤ i) wr w2 := Only.of_below b2
      have o2 : w2.ownsRow w.heap.size 5 1 v (T j).length (b8s (T j)) := owns_only Q1.out k2 (fun i hi hs => by have := (Q1.out.lt i hi).2; omega)
      have O2 := Lib.hid o2
      have X1 := Lib.hid x1
      have HX := Lib.hid hx
      have B2 := Lib.hid (Q2.out.trans (b2.mono hs2))
      have hs3 := B2.out.size
      have hx4 : x.length ≤ 1024 := by omega
      clear o2 x1 hx b2 k2 C2 Q1
      go_wp2_with (at_builtin; go_must (refine wpList_append_bytes _ rfl (.tmp 14) (.tmp 21) 33 rfl w.heap.size 5 i0 Tryz.underlying33 hi0 hy0 hy1 hy2 _ (T j) x rfl O2.out _ _ _ rfl X1.out (by rw [List.length_append]; omega) hs3 ?_))
      intro v3 w3 o3 g3 _
      have R : Hid (SlInv w (T (j + 1)) v3 w3) := by
        rw [show T (j + 1) = T j ++ x from hst.out]
        refine ⟨by rw [List.length_append]; exact o3, B2.out.grown g3 hs3 (fun i hi => (O2.out.lt i hi).1)⟩
      clear o3 g3 O2 X1 B2
      go_wp2
      go_roundw
      case rel => exact ⟨j + 1, _, by omega, by go_num, rfl, R⟩
      case measure => simp [RowKit.intOf]; omega
    · have hje : j = g.M := by omega
      subst hje
      have hTl := HL.out g.M (Nat.le_refl _)
      have hMz : g.M * g.z ≤ 4096 := by
        have := Nat.mul_le_mul hM4 hz2
        omega
      have hT4 : (T g.M).length ≤ 4096 := by omega
      obtain ⟨sl, hsl⟩ : ∃ sl, sl = T g.M := ⟨_, rfl⟩
      rw [← hsl] at hrel hT4
      have HSL := Lib.hid hsl
      clear hsl
      have dl : decide ((g.M : Int) < (g.M : Int)) = false := decide_eq_false (by omega)
      have J1 : Hid (SlInv w sl v wr) := hrel
      obtain ⟨A, c, rfl, hcA⟩ : ∃ A c, v = .slice A sl.length c ∧ (0 < sl.length → ∃ q, A = some ⟨q, 0, none⟩) := by
        rcases id hrel.out.1.2 with ⟨rfl, h0⟩ | ⟨q, cap, cur, rfl, _⟩
        · exact ⟨none, 0, by rw [h0], fun hh => by omega⟩
        · exact ⟨_, _, rfl, fun _ => ⟨q, rfl⟩⟩
      clear hrel CP CR HC HL hTl hMz
      go_wp2_with fail
      go_loopw [27] (fun i wx => ∃ (p : Nat), p ≤ 4 * sl.length ∧ i = .int .i64 p ∧ Hid (SlInv w sl (.slice A sl.length c) wx ∧ ∀ q, q < p → slotOf sl q = 0 ∨ (slotOf sl q ≤ 2 ∧ q < g.k))) (fun i _ => 4 * sl.length - (RowKit.intOf i).toNat)
      case atStart => exact ⟨0, Nat.zero_le _, rfl, Lib.hid ⟨J1.out, fun q hq => absurd hq (by omega)⟩⟩
      case round =>
        obtain ⟨p, hp, rfl, hrel⟩ := hrel
        clear J1
        obtain ⟨K1, hall⟩ := hrel.out
        have c4 := GM.out wr K1.2
        by_cases hlt : p < 4 * sl.length
        · obtain ⟨q, rfl⟩ := hcA (by omega)
          have hp4 : p / 4 < sl.length := by omega
          have hcell := World.ownsRow.cellAt K1.1 (p / 4) (by omega)
          rw [b8s_get hp4] at hcell
          have hsl : slotOf sl p = crumb sl[p / 4] (p % 4) := by simp [slotOf, List.getD, List.getElem?_eq_getElem hp4]
          have C1 := Lib.hid (slotof_any ⟨q, 0, none⟩ sl.length c p sl[p / 4] wr (by omega) hp4 (by
            rw [show ((⟨q, 0, none⟩ : Addr).add (p / 4)) = ⟨q, p / 4, none⟩ by by_cases h0 : p / 4 = 0 <;> simp [Addr.add, h0]]
            exact hcell))
          rw [← hsl] at C1
          have hv4 : slotOf sl p < 4 := by rw [hsl]; exact crumb_lt _ _
          have KD := Lib.hid (fun n => K1.drewN n)
          have HA := Lib.hid hall
          have i1 : (p : Int) < 4 * (sl.length : Int) := by omega
          have HN : Hid (∀ x, slotOf sl p = x → (x = 0 ∨ (x ≤ 2 ∧ p < g.k)) → ∀ q', q' < p + 1 → slotOf sl q' = 0 ∨ (slotOf sl q' ≤ 2 ∧ q' < g.k)) := fun x hx h q' hq => by
            rcases Nat.lt_or_ge q' p with h' | h'
            · exact hall q' h'
            · have : q' = p := by omega
              subst this
              rw [hx]
              exact h
          have HX : Hid (∀ x, slotOf sl p = x → ¬ (x = 0 ∨ (x ≤ 2 ∧ p < g.k)) → ¬ okSl g.k sl) := fun x hx h hh => h (hx ▸ hh p hlt)
          generalize hx : slotOf sl p = x at C1 hv4
          have HN := Lib.hid (HN.out x hx)
          have HX := Lib.hid (HX.out x hx)
          clear hx hcell hsl K1 hall hrel hcA
          by_cases h0 : x = 0
          · subst h0
            have R := Lib.hid (HN.out (.inl rfl))
            go_wp2_with fail
            refine C1.out.mono ?_
            rintro e w2 ⟨rfl, n, rfl⟩
            have c4' : (wr.drewN n).cell? ⟨gb, 4, none⟩ = some (.int .i64 (g.k : Int)) := c4
            clear C1
            go_wp2_with fail
            refine (must_yes 2 _).mono ?_
            rintro e w3 ⟨rfl, rfl⟩
            go_wp2
            go_roundw
            case rel => exact ⟨p + 1, by omega, by go_num, Lib.hid ⟨KD.out _, R.out⟩⟩
            case measure => simp [RowKit.intOf]; omega
          · have d0 : decide ((x : Int) = 0) = false := decide_eq_false (by omega)
            have n0 : ¬ ((x : Int) = 0) := by omega
            have e0 : ((x : Int) == 0) = false := by simpa using n0
            by_cases h2 : x ≤ 2
            · have d2 : decide ((x : Int) ≤ 2) = true := decide_eq_true (by omega)
              by_cases hk : p < g.k
              · have dk : decide (p < g.k) = true := decide_eq_true hk
                skip
                have R := Lib.hid (HN.out (.inr ⟨by omega, by omega⟩))
                go_wp2_with fail
                refine C1.out.mono ?_
                rintro e w2 ⟨rfl, n, rfl⟩
                have c4' : (wr.drewN n).cell? ⟨gb, 4, none⟩ = some (.int .i64 (g.k : Int)) := c4
                clear C1
                go_wp2_with fail
                refine (must_yes 2 _).mono ?_
                rintro e w3 ⟨rfl, rfl⟩
                go_wp2
                go_roundw
                case rel => exact ⟨p + 1, by omega, by go_num, Lib.hid ⟨KD.out _, R.out⟩⟩
                case measure => simp [RowKit.intOf]; omega
              · have dk : decide (p < g.k) = false := decide_eq_false hk
                have R : Hid (∀ n, SlotsAns w g.k sl (.panicked [{ v := .iface 26 (.int .i64 2), recovered := false }]) (wr.drewN n)) := fun n => ⟨.inr ⟨HX.out (by omega), rfl⟩, (KD.out n).2⟩
                go_wp2_with fail
                refine C1.out.mono ?_
                rintro e w2 ⟨rfl, n, rfl⟩
                have c4' : (wr.drewN n).cell? ⟨gb, 4, none⟩ = some (.int .i64 (g.k : Int)) := c4
                clear C1
                go_wp2_with fail
                refine (must_no 2 _).mono ?_
                rintro e w3 ⟨rfl, rfl⟩
                go_wp2
                exact ⟨rfl, by rw [← HSL.out]; exact R.out n⟩
            · have d2 : decide ((x : Int) ≤ 2) = false := decide_eq_false (by omega)
              have R : Hid (∀ n, SlotsAns w g.k sl (.panicked [{ v := .iface 26 (.int .i64 2), recovered := false }]) (wr.drewN n)) := fun n => ⟨.inr ⟨HX.out (by omega), rfl⟩, (KD.out n).2⟩
              go_wp2_with fail
              refine C1.out.mono ?_
              rintro e w2 ⟨rfl, n, rfl⟩
              have c4' : (wr.drewN n).cell? ⟨gb, 4, none⟩ = some (.int .i64 (g.k : Int)) := c4
              clear C1
              go_wp2_with fail
              refine (must_no 2 _).mono ?_
              rintro e w3 ⟨rfl, rfl⟩
              go_wp2
              exact ⟨rfl, by rw [← HSL.out]; exact R.out n⟩
        · have hpe : p = 4 * sl.length := by omega
          subst hpe
          have R : Hid (SlotsAns w g.k sl (.returned (.slice A sl.length c)) wr) := ⟨.inl ⟨hall, _, rfl, K1⟩, K1.2⟩
          have i1 : decide (((4 * sl.length : Nat) : Int) < 4 * (sl.length : Int)) = false := decide_eq_false (by omega)
          clear K1 hall hrel hcA
          go_wp2
          go_ret
          rw [← HSL.out]
          exact R.out
end
end Go.Proofs.YtnhojcldeloigaaGreat
namespace Go.Proofs.YtnhojcldeloigaaGreat
open Go.RowKit Go.Lib Go.Maps
set_option maxRecDepth 100000

/-- Are there m sectors from a on? -/
def there (N : Nat) (a m : Int) : Bool := decide (0 ≤ a ∧ a < (N : Int) ∧ 0 ≤ m ∧ m ≤ (N : Int) - a)
/-- What a check ends in. -/
def endsB (b : Bool) (r : Int) : Ending := if b = true then .returned (.tuple #[]) else .panicked [{ v := .iface 26 (.int .i64 r), recovered := false }]
theorem endsB_yes {b : Bool} (h : b = true) (r : Int) : endsB b r = .returned (.tuple #[]) := if_pos h
theorem endsB_no {b : Bool} (h : b = false) (r : Int) : endsB b r = .panicked [{ v := .iface 26 (.int .i64 r), recovered := false }] := if_neg (by rw [h]; decide)
section
variable (F E : Nat → Prop) (gd : Nat) (s : D) (w : World) (h : Dk w F E gd s)
include h
set_option maxHeartbeats 1000000 in
theorem mustbethere_any (a m : Int) : Calls Tryz.prog 34 #[.pointer (some ⟨gd, 0, none⟩), .int .i64 a, .int .i64 m] w fun e w' =>
    e = endsB (there s.kept.length a m) 1 ∧ ∃ n, w' = w.drewN n := by
  have C := Lib.hid (shape_any F E gd s w h)
  have hN := h.lt.2.2.2.2.2.most
  obtain ⟨N, hNe⟩ : ∃ N, N = s.kept.length := ⟨_, rfl⟩
  rw [← hNe] at C hN ⊢
  clear h hNe
  by_cases h1 : 0 ≤ a
  · by_cases h2 : a < (N : Int)
    · by_cases h3 : 0 ≤ m
      · have hw : IntKind.i64.wrap ((N : Int) - a) = (N : Int) - a := IntWalk.i64_in _ (by omega)
        by_cases h4 : m ≤ (N : Int) - a
        · have R : Hid (there N a m = true) := Lib.hid (decide_eq_true ⟨h1, h2, h3, h4⟩)
          go_enter Tryz.func34, Tryz.ntmps34
          go_wp2_with fail
          refine C.out.mono ?_
          rintro e w1 ⟨rfl, n, rfl⟩
          go_wp2_with fail
          refine (must_yes 1 _).mono ?_
          rintro e w2 ⟨rfl, rfl⟩
          go_wp2
          go_end0
          exact ⟨(endsB_yes R.out 1).symm, n, rfl⟩
        · have R : Hid (there N a m = false) := Lib.hid (decide_eq_false fun h => h4 h.2.2.2)
          have d4 : decide (m ≤ (N : Int) - a) = false := decide_eq_false h4
          go_enter Tryz.func34, Tryz.ntmps34
          go_wp2_with fail
          refine C.out.mono ?_
          rintro e w1 ⟨rfl, n, rfl⟩
          go_wp2_with fail
          refine (must_no 1 _).mono ?_
          rintro e w2 ⟨rfl, rfl⟩
          go_wp2
          exact ⟨rfl, (endsB_no R.out 1).symm, n, rfl⟩
      · have R : Hid (there N a m = false) := Lib.hid (decide_eq_false fun h => h3 h.2.2.1)
        go_enter Tryz.func34, Tryz.ntmps34
        go_wp2_with fail
        refine C.out.mono ?_
        rintro e w1 ⟨rfl, n, rfl⟩
        go_wp2_with fail
        refine (must_no 1 _).mono ?_
        rintro e w2 ⟨rfl, rfl⟩
        go_wp2
        exact ⟨rfl, (endsB_no R.out 1).symm, n, rfl⟩
    · have R : Hid (there N a m = false) := Lib.hid (decide_eq_false fun h => h2 h.2.1)
      go_enter Tryz.func34, Tryz.ntmps34
      go_wp2_with fail
      refine C.out.mono ?_
      rintro e w1 ⟨rfl, n, rfl⟩
      go_wp2_with fail
      refine (must_no 1 _).mono ?_
      rintro e w2 ⟨rfl, rfl⟩
      go_wp2
      exact ⟨rfl, (endsB_no R.out 1).symm, n, rfl⟩
  · have R : Hid (there N a m = false) := Lib.hid (decide_eq_false fun h => h1 h.1)
    go_enter Tryz.func34, Tryz.ntmps34
    go_wp2_with fail
    refine C.out.mono ?_
    rintro e w1 ⟨rfl, n, rfl⟩
    go_wp2_with fail
    refine (must_no 1 _).mono ?_
    rintro e w2 ⟨rfl, rfl⟩
    go_wp2
    exact ⟨rfl, (endsB_no R.out 1).symm, n, rfl⟩

/-- What over lays. -/
def OverAns (w : World) (gd : Nat) (a m : Nat) (z : Nat) (e : Ending) (w' : World) : Prop :=
  e = .returned (.pointer (some ⟨w.heap.size + 1, 0, none⟩)) ∧ Bk w' (fun i => i = w.heap.size ∨ i = w.heap.size + 1) (w.heap.size + 1) gd ⟨a, m, z, 0⟩ (fun _ => none) ∧ Below w.heap.size w w'
set_option maxHeartbeats 1000000 in
theorem pgover_any (a m : Nat) : Calls Tryz.prog 37 #[.pointer (some ⟨gd, 0, none⟩), .int .i64 (a : Int), .int .i64 (m : Int)] w (OverAns w gd a m s.size) := by
  have C := Lib.hid (shape_any F E gd s w h)
  have hmm := @run_makeMap Tryz.prog
  have R : Hid (∀ n, OverAns w gd a m s.size (.returned (.pointer (some ⟨w.heap.size + 1, 0, none⟩))) (((w.drewN n).alloc (.map #[] 0)).alloc (.cells #[.pointer (some ⟨gd, 0, none⟩), .int .i64 (a : Int), .int .i64 (m : Int), .int .i64 (s.size : Int), .int .i64 0, .map (some w.heap.size)] 67))) := fun n => by
    have hsz : ((w.drewN n).alloc (.map #[] 0)).heap.size = w.heap.size + 1 := by simp
    refine ⟨rfl, ⟨w.heap.size, ?_, ⟨?_, fun p bs hp => by cases hp⟩, .inr rfl, .inl rfl, fun i hi => by simp; omega⟩, ?_⟩
    · have := Has.new ((w.drewN n).alloc (.map #[] 0)) 67 #[.pointer (some ⟨gd, 0, none⟩), .int .i64 (a : Int), .int .i64 (m : Int), .int .i64 (s.size : Int), .int .i64 0, .map (some w.heap.size)]
      rw [hsz] at this
      exact this
    · refine ⟨0, .map [], (World.ownsMap_made (w.drewN n) Tryz.prog 3 slR).alloc _, fun i => ?_, fun p bs hp => by cases hp⟩
      simp [Maps.has]
    · exact ((((Only.refl (fun _ => False) w).drewN n).alloc _).alloc _).below (Nat.le_refl _) (fun _ _ h => h)
  clear h
  go_enter Tryz.func37, Tryz.ntmps37
  go_wp2_with fail
  refine C.out.mono ?_
  rintro e w1 ⟨rfl, n, rfl⟩
  go_wp2
  go_ret
  exact R.out n
end
end Go.Proofs.YtnhojcldeloigaaGreat
namespace Go.Proofs.YtnhojcldeloigaaGreat
open Go.RowKit Go.Lib Go.Maps
set_option maxRecDepth 100000

/-- What Open finds. -/
def openG (s : D) (a m : Nat) : BG := ⟨a, m, s.size, num2 (s.seen.getD a []) 12⟩
structure OpenOk (s : D) (g : BG) : Prop where
  may : mayH (g.n : Int) (g.k : Int) = true
  root : g.rooted s.seen = true
  sl : okSl g.k (g.slots s.seen (g.lst s.seen))
theorem mayH_iff (n k : Nat) : mayH (n : Int) (k : Int) = true ↔ 1 ≤ k ∧ k ≤ 1024 ∧ 3 * k + 16 ≤ n := by
  unfold mayH
  rw [decide_eq_true_eq]
  omega
/-- What Open's function leaves. -/
def OpenPost (w : World) (F E : Nat → Prop) (gd : Nat) (s : D) (a m p : Nat) (r : Int) (w' : World) : Prop :=
  ((r = 0 ∧ OpenOk s (openG s a m) ∧ ∃ gb G, Has w' p 29 #[.pointer (some ⟨gb, 0, none⟩)] ∧ St w' F E G gd s gb (openG s a m) (fun _ => none) ∧ ∀ i, G i → w.heap.size ≤ i) ∨
   (r = 2 ∧ ¬ OpenOk s (openG s a m) ∧ Has w' p 29 #[.pointer none])) ∧ Only (fun i => i = p ∨ w.heap.size ≤ i) w w'
theorem endsIn_zero : endsIn 0 = .returned (.tuple #[]) := rfl
theorem endsIn_two : endsIn 2 = .panicked [{ v := .iface 26 (.int .i64 2), recovered := false }] := rfl
theorem endsIn_one : endsIn 1 = .panicked [{ v := .iface 26 (.int .i64 1), recovered := false }] := rfl

section
variable (F E : Nat → Prop) (gd : Nat) (s : D) (w : World) (h : Dk w F E gd s)
include h
set_option maxHeartbeats 4000000 in
theorem open1_there (a m p0 p1 p2 p3 : Nat) (ho : s.off = false) (hz : 64 ≤ s.size) (ht : there s.kept.length (a : Int) (m : Int) = true) (b0 : Has w p0 25 #[.pointer (some ⟨gd, 0, none⟩)]) (b1 : Has w p1 3 #[.int .i64 (a : Int)]) (b2 : Has w p2 3 #[.int .i64 (m : Int)]) (b3 : Has w p3 29 #[.pointer none]) (hp3 : ¬ F p3 ∧ ¬ E p3) :
    Calls Tryz.prog 50 #[.pointer (some ⟨p0, 0, none⟩), .pointer (some ⟨p1, 0, none⟩), .pointer (some ⟨p2, 0, none⟩), .pointer (some ⟨p3, 0, none⟩)] w fun e w' => ∃ r, e = endsIn r ∧ OpenPost w F E gd s a m p3 r w' := by
  have hlt := h.lt
  have hN := hlt.2.2.2.2.2.most
  have hz2 := hlt.2.2.2.2.2.small
  have ht' : 0 ≤ (a : Int) ∧ (a : Int) < (s.kept.length : Int) ∧ 0 ≤ (m : Int) ∧ (m : Int) ≤ (s.kept.length : Int) - (a : Int) := of_decide_eq_true ht
  have HB : Hid (∀ w', Only (fun i => w.heap.size ≤ i) w w' → (w'.cell? ⟨p0, 0, none⟩ = some (.pointer (some ⟨gd, 0, none⟩)) ∧ w'.cell? ⟨p1, 0, none⟩ = some (.int .i64 (a : Int)) ∧ w'.cell? ⟨p2, 0, none⟩ = some (.int .i64 (m : Int)) ∧ w'.cell? ⟨p3, 0, none⟩ = some (.pointer none) ∧ w'.frozen? ⟨p3, 0, none⟩ = false) ∧ Has w' p3 29 #[.pointer none] ∧ Dk w' F E gd s) := fun w' k => by
    have l0 := b0.lt
    have l1 := b1.lt
    have l2 := b2.lt
    have l3 := b3.lt
    have B0 := b0.only k (by omega)
    have B1 := b1.only k (by omega)
    have B2 := b2.only k (by omega)
    have B3 := b3.only k (by omega)
    exact ⟨⟨B0.cell 0, B1.cell 0, B2.cell 0, B3.cell 0, B3.frozen 0⟩, B3, h.only k (fun i hi hs => by have hs : w.heap.size ≤ i := hs; omega)⟩
  obtain ⟨⟨c0, c1, c2, c3, f3⟩, _, _⟩ := HB.out w (Only.refl _ _)
  have C0 := mustbethere_any F E gd s w h (a : Int) (m : Int)
  rw [endsB_yes ht] at C0
  have C0 := Lib.hid C0
  have CO : Hid (∀ w', Only (fun i => w.heap.size ≤ i) w w' → Calls Tryz.prog 37 #[.pointer (some ⟨gd, 0, none⟩), .int .i64 (a : Int), .int .i64 (m : Int)] w' (OverAns w' gd a m s.size)) := fun w' k => pgover_any F E gd s w' (HB.out w' k).2.2 a m
  have hl3 := b3.lt
  obtain ⟨k, hk⟩ : ∃ k, k = num2 (s.seen.getD a []) 12 := ⟨_, rfl⟩
  have hk6 : k < 65536 := by rw [hk]; exact num2_lt _ _
  have hG : openG s a m = ⟨a, m, s.size, k⟩ := by rw [openG, hk]
  have H := Lib.hid hlt
  have HG := Lib.hid hG
  have HK := Lib.hid hk
  clear h hlt b0 b1 b2 b3 hG hk ht
  go_enter Tryz.func50, Tryz.ntmps50
  go_wp2_with fail
  refine C0.out.mono ?_
  rintro e w1 ⟨rfl, n, rfl⟩
  have K1 : Hid (Only (fun i => w.heap.size ≤ i) w (w.drewN n)) := (Only.refl _ w).drewN n
  have C1 := Lib.hid (CO.out _ K1.out)
  clear C0 CO
  go_wp2_with fail
  refine C1.out.mono ?_
  rintro e w2 ⟨rfl, bk2, lo2⟩
  have K2 : Hid (Only (fun i => w.heap.size ≤ i) w w2) := K1.out.trans (Only.of_below lo2) (fun _ _ h => h)
  obtain ⟨⟨c0, c1, c2, c3, f3⟩, _, dk2⟩ := HB.out w2 K2.out
  have C2 := Lib.hid (pgread_raw F E _ gd _ s ⟨a, m, s.size, 0⟩ _ w2 dk2 bk2 rfl 0 ho (by show a + 0 < _; omega))
  have BK2 := Lib.hid bk2
  clear bk2 lo2 dk2 C1 K1
  go_wp2_with fail
  refine C2.out.mono ?_
  rintro e w3 ⟨A, c, rfl, hx, x3, lo3⟩
  have hsec : BG.sec ⟨a, m, s.size, 0⟩ s.seen 0 = s.seen.getD a [] := rfl
  rw [hsec] at hx x3
  have hx : (s.seen.getD a []).length = s.size := hx
  have C3 := number_sl _ _ _ _ 12 w3 x3 (by omega) (by omega)
  rw [← HK.out] at C3
  have C3 := Lib.hid C3
  have K3 : Hid (Only (fun i => w.heap.size ≤ i) w w3) := K2.out.trans (Only.of_below lo3) (fun i hi h => by have := K2.out.size; have h : w2.heap.size ≤ i := h; omega)
  have BK3 := Lib.hid (BK2.out.only (Only.of_below lo3) (fun i hi h hg => by have h : w2.heap.size ≤ i := h; omega))
  clear x3 lo3 C2 BK2 hsec hx
  go_wp2_with fail
  refine C3.out.mono ?_
  rintro e w4 ⟨rfl, n4, rfl⟩
  have K4 : Hid (Only (fun i => w.heap.size ≤ i) w (w3.drewN n4)) := K3.out.drewN n4
  obtain ⟨G, hGd⟩ : ∃ G : Nat → Prop, G = fun i => i = w.heap.size ∨ i = w.heap.size + 1 := ⟨_, rfl⟩
  obtain ⟨gm, bk4⟩ : ∃ gm, BkAt (w3.drewN n4) G (w.heap.size + 1) gd ⟨a, m, s.size, 0⟩ (fun _ => none) gm := by
    rw [hGd]
    exact BK3.out.only (S := fun _ => False) ((Only.refl _ w3).drewN n4) (fun _ _ h => h.elim)
  have d4 := bk4.cells.2.2.2.2.1
  have e4 := bk4.has.frozen 4
  have hGw : ∀ i, G i → w.heap.size ≤ i := fun i hi => by
    rw [hGd] at hi
    have hi : i = w.heap.size ∨ i = w.heap.size + 1 := hi
    omega
  have K5 : Hid (Only (fun i => w.heap.size ≤ i) w ((w3.drewN n4).setCell ⟨w.heap.size + 1, 4, none⟩ (.int .i64 (k : Int)))) := K4.out.setCell (p := ⟨w.heap.size + 1, 4, none⟩) (fun _ => by show w.heap.size ≤ w.heap.size + 1; omega) _
  have B5 : Hid (BkAt ((w3.drewN n4).setCell ⟨w.heap.size + 1, 4, none⟩ (.int .i64 (k : Int))) G (w.heap.size + 1) gd ⟨a, m, s.size, k⟩ (fun _ => none) gm) := by
    have ks : Only (fun i => i = w.heap.size + 1) (w3.drewN n4) ((w3.drewN n4).setCell ⟨w.heap.size + 1, 4, none⟩ (.int .i64 (k : Int))) := (Only.refl (fun i => i = w.heap.size + 1) _).setCell (p := ⟨w.heap.size + 1, 4, none⟩) (fun _ => rfl) _
    have hnm : gm ≠ w.heap.size + 1 := fun e => by
      obtain ⟨_, _, q, _⟩ := bk4.ch.map
      obtain ⟨es, clock, hb, _⟩ := q
      have := bk4.has
      unfold Has at this
      rw [← e, hb] at this
      cases this
    refine ⟨bk4.has.set 4 _, ⟨?_, fun p bs hp => by cases hp⟩, bk4.gB, bk4.gM, fun i hi => Nat.lt_of_lt_of_le (bk4.lt i hi) ks.size⟩
    obtain ⟨n0, D0, q1, q2, q3⟩ := bk4.ch.map
    exact ⟨n0, D0, map_only q1 ks hnm, q2, fun p bs hp => by cases hp⟩
  have HGW := Lib.hid hGw
  clear bk4 K4 BK3 C3 K3 hGd hGw
  go_wp2_with fail
  generalize hw5 : (w3.drewN n4).setCell ⟨w.heap.size + 1, 4, none⟩ (.int .i64 (k : Int)) = w5 at K5 B5 ⊢
  clear hw5 d4 e4
  have K6 : Hid (Only (fun i => w.heap.size ≤ i) w w5.drew) := K5.out.drew
  obtain ⟨⟨c0, c1, c2, c3, f3⟩, B3, dk6⟩ := HB.out w5.drew K6.out
  have d4 := B5.out.cells.2.2.2.2.1
  have CM : Hid (∀ W, Calls Tryz.prog 36 #[.int .i64 (m : Int), .int .i64 (k : Int)] W fun e w' => e = .returned (.bool (mayH (m : Int) (k : Int))) ∧ w' = W) := fun W => (mayhave_any (m : Int) (k : Int) W).mono fun e w' hh => ⟨hh.1, hh.2.symm⟩
  have hmi := Lib.hid (mayH_iff m k)
  by_cases hmay : mayH (m : Int) (k : Int) = true
  · have hmi2 := hmi.out.1 hmay
    have HM := Lib.hid hmay
    rw [hmay] at CM
    clear hmay hmi
    have hok : BG.Ok ⟨a, m, s.size, k⟩ s.kept.length := ⟨hz, hz2, hmi2.1, hmi2.2.1, hmi2.2.2, by show a + m ≤ _; omega, hN⟩
    have ST : Hid (∀ w', Only (fun _ => False) w5 w' → St w' F E G gd s (w.heap.size + 1) ⟨a, m, s.size, k⟩ (fun _ => none)) := fun w' k' => by
      refine ⟨(HB.out w' (K5.out.trans k' (fun _ _ h => h.elim))).2.2, ⟨gm, B5.out.only k' (fun _ _ h => h.elim)⟩, fun i hi => ⟨fun hF => ?_, fun hE => ?_⟩, hok, rfl⟩
      · have := HGW.out i hi
        have := H.out.2.2.1 i hF
        omega
      · have := HGW.out i hi
        have := H.out.2.2.2.1 i hE
        omega
    obtain ⟨⟨c0, c1, c2, c3, f3⟩, _, _⟩ := HB.out w5 K5.out
    have CY : Hid (∀ W, Calls Tryz.prog 35 #[.bool true, .int .i64 2] W fun e w' => e = .returned (.tuple #[]) ∧ w' = W) := fun W => (must_yes 2 W).mono fun e w' hh => ⟨hh.1, hh.2.symm⟩
    clear B3 dk6 K6 hmi2
    go_quiet (first | (go_at_call 36; exact Calls.quiet_of_same (CM.out _)) | (go_at_call 35; exact Calls.quiet_of_same (CY.out _)))
    have k7 : Only (fun _ => False) w5 (w5.drewN nq) := (Only.refl _ w5).drewN nq
    have s7 := ST.out _ k7
    have CH := pgholds_any F E G gd (w.heap.size + 1) s _ _ _ s7 ho
    have hroot := BG.rooted ⟨a, m, s.size, k⟩ s.seen
    have K7 : Hid (Only (fun i => w.heap.size ≤ i) w (w5.drewN nq)) := K5.out.trans k7 (fun _ _ h => h.elim)
    obtain ⟨g1, hg1⟩ : ∃ g1 : BG, g1 = ⟨a, m, s.size, k⟩ := ⟨_, rfl⟩
    rw [← hg1] at CH ST
    have HG1 : Hid (openG s a m = g1) := Lib.hid (by rw [hg1]; exact HG.out)
    have hgk : (g1.n : Int) = (m : Int) ∧ (g1.k : Int) = (k : Int) := by rw [hg1]; exact ⟨rfl, rfl⟩
    have HGK := Lib.hid hgk
    have hl2 : g1.lst s.seen < 2 := Nat.mod_lt _ (by decide)
    clear hroot hok hg1 hgk s7 c0 c1 c2
    cases hrt : g1.rooted s.seen with
    | false =>
      rw [hrt, if_neg (by decide)] at CH
      have R : Hid (∀ w', Below (w5.drewN nq).heap.size (w5.drewN nq) w' → OpenPost w F E gd s a m p3 2 w') := fun w' lo => by
        have k8 : Only (fun i => w.heap.size ≤ i) w w' := K7.out.trans (Only.of_below lo) (fun i hi h => by have := K7.out.size; have h : (w5.drewN nq).heap.size ≤ i := h; omega)
        refine ⟨.inr ⟨rfl, fun hh => ?_, (HB.out w' k8).2.1⟩, k8.mono (fun i _ h => .inr h)⟩
        have := hh.root
        rw [HG1.out, hrt] at this
        cases this
      have CH := Lib.hid CH
      clear hrt
      go_wp2_with fail
      refine CH.out.mono ?_
      rintro e w8 ⟨rfl, lo⟩
      have R2 := Lib.hid (R.out w8 lo)
      clear lo R CH
      go_wp2
      exact ⟨rfl, 2, rfl, R2.out⟩
    | true =>
      rw [hrt, if_pos rfl] at CH
      have CH := Lib.hid CH
      have HR := Lib.hid hrt
      clear hrt
      go_wp2_with fail
      refine CH.out.mono ?_
      rintro e w8 ⟨rfl, lo8⟩
      have k8 : Only (fun _ => False) w5 w8 := k7.trans ⟨lo8.os, lo8.tape, lo8.output, lo8.size, fun i hi _ => lo8.block i hi⟩ (fun _ _ h => h)
      have CS := Lib.hid (pgslots_any F E G gd (w.heap.size + 1) s g1 _ w8 (ST.out _ k8) (g1.lst s.seen) hl2 ho)
      have K8 := Lib.hid k8
      clear k8 lo8 CH
      go_wp2_with fail
      refine CS.out.mono ?_
      rintro e w9 ⟨⟨hsl, v9, rfl, o9⟩ | ⟨hsl, rfl⟩, lo9⟩
      · have k9 : Only (fun _ => False) w5 w9 := K8.out.trans ⟨lo9.os, lo9.tape, lo9.output, lo9.size, fun i hi _ => lo9.block i hi⟩ (fun _ _ h => h)
        have kw9 : Only (fun i => w.heap.size ≤ i) w w9 := K5.out.trans k9 (fun _ _ h => h.elim)
        obtain ⟨⟨_, _, _, c3, f3⟩, b3, _⟩ := HB.out w9 kw9
        have s9 := ST.out _ k9
        have R : Hid (OpenPost w F E gd s a m p3 0 (w9.setCell ⟨p3, 0, none⟩ (.pointer (some ⟨w.heap.size + 1, 0, none⟩)))) := by
          have ks : Only (fun i => i = p3) w9 (w9.setCell ⟨p3, 0, none⟩ (.pointer (some ⟨w.heap.size + 1, 0, none⟩))) := (Only.refl (fun i => i = p3) w9).setCell (p := ⟨p3, 0, none⟩) (fun _ => rfl) _
          refine ⟨.inl ⟨rfl, ?_, w.heap.size + 1, G, b3.set 0 _, ?_, HGW.out⟩, (kw9.mono (fun i _ h => .inr h)).trans ks (fun i _ h => .inl h)⟩
          · rw [HG1.out]
            refine ⟨?_, HR.out, hsl⟩
            rw [HGK.out.1, HGK.out.2]
            exact HM.out
          · rw [HG1.out]
            refine s9.only ks (fun i hi e => ?_)
            subst e
            exact ⟨hp3.1, hp3.2, fun hg => by have := HGW.out _ hg; omega⟩
        obtain ⟨A9, n9, c9, rfl⟩ : ∃ A n c, v9 = .slice A n c := by
          rcases o9.1.2 with ⟨rfl, _⟩ | ⟨q, cap, cur, rfl, _⟩
          · exact ⟨_, _, _, rfl⟩
          · exact ⟨_, _, _, rfl⟩
        clear hsl o9 lo9 k9 kw9 b3 s9 CS
        go_wp2
        go_end0
        exact ⟨0, rfl, R.out⟩
      · have k9 : Only (fun _ => False) w5 w9 := K8.out.trans ⟨lo9.os, lo9.tape, lo9.output, lo9.size, fun i hi _ => lo9.block i hi⟩ (fun _ _ h => h)
        have kw9 : Only (fun i => w.heap.size ≤ i) w w9 := K5.out.trans k9 (fun _ _ h => h.elim)
        have R : Hid (OpenPost w F E gd s a m p3 2 w9) := by
          refine ⟨.inr ⟨rfl, fun hh => hsl ?_, (HB.out w9 kw9).2.1⟩, kw9.mono (fun i _ h => .inr h)⟩
          have := hh.sl
          rw [HG1.out] at this
          exact this
        clear hsl lo9 k9 kw9 CS
        go_wp2
        exact ⟨rfl, 2, rfl, R.out⟩
  · have hmay : mayH (m : Int) (k : Int) = false := by simpa using hmay
    have R : Hid (OpenPost w F E gd s a m p3 2 w5.drew) := by
      refine ⟨.inr ⟨rfl, fun hh => ?_, B3⟩, K6.out.mono (fun i _ h => .inr h)⟩
      have := hh.may
      rw [HG.out] at this
      rw [show ((⟨a, m, s.size, k⟩ : BG).n : Int) = (m : Int) from rfl, show ((⟨a, m, s.size, k⟩ : BG).k : Int) = (k : Int) from rfl, hmay] at this
      cases this
    rw [hmay] at CM
    clear B3 dk6 HB
    refine wp_region_held_drew (S := fun w' => w'.cell? ⟨p2, 0, none⟩ = some (.int .i64 (m : Int)) ∧ w'.cell? ⟨w.heap.size + 1, 4, none⟩ = some (.int .i64 (k : Int))) (by kernel_rfl) ?_ (fun hHeld => ?_)
    · exact ⟨c2, d4⟩
    refine takeH (i := 0) (d := 19) (v := ?_) (by kernel_rfl) (by kernel_rfl) (by kernel_rfl) rfl (fun _ _ _ h => h) (by rfl) ?_ hHeld ?_
    rotate_left
    · intro o ho w hSw
      cases ho
      have h1 := hSw.1
      have h2 := hSw.2
      go_simp
      try with_reducible rfl
    simp only [Act.put, List.setIfInBounds_toArray, List.set_cons_zero, List.set_cons_succ]
    refine takeH (i := 1) (d := 20) (v := ?_) (by kernel_rfl) (by kernel_rfl) (by kernel_rfl) rfl (fun _ _ _ h => h) (by rfl) ?_ hHeld ?_
    rotate_left
    · intro o ho w hSw
      cases ho
      have h1 := hSw.1
      have h2 := hSw.2
      go_simp
      try with_reducible rfl
    simp only [Act.put, List.setIfInBounds_toArray, List.set_cons_zero, List.set_cons_succ]
    refine takeH (i := 2) (d := 21) (v := ?_) (by kernel_rfl) (by kernel_rfl) (by kernel_rfl) rfl (fun _ _ _ h => h) (by rfl) ?_ hHeld ?_
    rotate_left
    · intro o ho w hSw
      cases ho
      have h1 := hSw.1
      have h2 := hSw.2
      go_simp
      try with_reducible rfl
    simp only [Act.put, List.setIfInBounds_toArray, List.set_cons_zero, List.set_cons_succ]
    refine takeH (i := 3) (d := 22) (v := ?_) (by kernel_rfl) (by kernel_rfl) (by kernel_rfl) rfl (fun _ _ _ h => h) (by rfl) ?_ hHeld ?_
    rotate_left
    · intro o ho w hSw
      cases ho
      have h1 := hSw.1
      have h2 := hSw.2
      go_simp
      try with_reducible rfl
    simp only [Act.put, List.setIfInBounds_toArray, List.set_cons_zero, List.set_cons_succ]
    refine takeH (i := 4) (d := 23) (v := ?_) (by kernel_rfl) (by kernel_rfl) (by kernel_rfl) rfl (fun _ _ _ h => h) (by rfl) ?_ hHeld ?_
    rotate_left
    · intro o ho w hSw
      cases ho
      have h1 := hSw.1
      have h2 := hSw.2
      go_simp
      try with_reducible rfl
    simp only [Act.put, List.setIfInBounds_toArray, List.set_cons_zero, List.set_cons_succ]
    refine wpAnyH_ready (rs := [5]) (by kernel_rfl) (by simp) ?_
    refine AllReadyH.cons rfl (fun K hK => ?_) AllReadyH.nil
    go_simp
    refine (CM.out _).mono ?_
    rintro e w' ⟨rfl, rfl⟩
    try go_wp2_with fail
    refine hK.out _ _ ?_ (fun hHeld => ?_)
    · exact ⟨c2, d4⟩
    clear hK K
    refine wpAnyH_ready (rs := [6]) (by kernel_rfl) (by simp) ?_
    refine AllReadyH.cons rfl (fun K hK => ?_) AllReadyH.nil
    go_simp
    refine (must_no 2 _).mono ?_
    rintro e w' ⟨rfl, rfl⟩
    exact ⟨rfl, 2, rfl, R.out⟩
end
end Go.Proofs.YtnhojcldeloigaaGreat
namespace Go.Proofs.YtnhojcldeloigaaGreat
open Go.RowKit Go.Lib Go.Maps
set_option maxRecDepth 100000

theorem Tryz.enterOpen1 : ∀ args w, (callFunc 50 args).run Tryz.prog w = .ok (.enter 50 args) w := enters_of Tryz.func50 (by kernel_rfl) rfl
set_option maxHeartbeats 1000000 in
/-- The frame of Open: what its function leaves is what it answers. -/
theorem open_wrap (gd : Nat) (w : World) (a m : Int) (r : Int) (PR : Option Addr → World → Prop)
    (hin : ∀ w1, Only (fun _ => False) w w1 → w1.heap.size = w.heap.size + 5 → Has w1 w.heap.size 25 #[.pointer (some ⟨gd, 0, none⟩)] → Has w1 (w.heap.size + 1) 3 #[.int .i64 a] → Has w1 (w.heap.size + 2) 3 #[.int .i64 m] → Has w1 (w.heap.size + 3) 29 #[.pointer none] →
      Calls Tryz.prog 50 #[.pointer (some ⟨w.heap.size, 0, none⟩), .pointer (some ⟨w.heap.size + 1, 0, none⟩), .pointer (some ⟨w.heap.size + 2, 0, none⟩), .pointer (some ⟨w.heap.size + 3, 0, none⟩)] w1 fun e w' =>
        e = endsIn r ∧ ∃ v, Has w' (w.heap.size + 3) 29 #[.pointer v] ∧ PR v w' ∧ Only (fun i => i = w.heap.size + 3 ∨ w1.heap.size ≤ i) w1 w')
    (hk : ∀ v w1 w2, PR v w1 → Only (fun i => i = w.heap.size + 4) w1 w2 → PR v w2) :
    Calls Tryz.prog 21 #[.pointer (some ⟨gd, 0, none⟩), .int .i64 a, .int .i64 m] w fun e w' => ∃ v, e = .returned (.tuple #[.pointer v, .int .i64 r]) ∧ PR v w' ∧ Below w.heap.size w w' := by
  obtain ⟨W, hW⟩ : ∃ W, W = (((w.alloc (.cells #[.pointer (some ⟨gd, 0, none⟩)] 25)).alloc (.cells #[.int .i64 a] 3)).alloc (.cells #[.int .i64 m] 3)).alloc (.cells #[.pointer none] 29) := ⟨_, rfl⟩
  have sW : W.heap.size = w.heap.size + 4 := by rw [hW]; simp
  have kE : Only (fun _ => False) w (W.alloc errBox) := by rw [hW]; exact (((((Only.refl _ w).alloc _).alloc _).alloc _).alloc _).alloc _
  have sE : (W.alloc errBox).heap.size = w.heap.size + 5 := by simp [sW]
  have b0 : Has (W.alloc errBox) w.heap.size 25 #[.pointer (some ⟨gd, 0, none⟩)] := by
    rw [hW]
    exact ((((Has.new w _ _).alloc _).alloc _).alloc _).alloc _
  have b1 : Has (W.alloc errBox) (w.heap.size + 1) 3 #[.int .i64 a] := by
    rw [hW]
    have := ((((Has.new (w.alloc (.cells #[.pointer (some ⟨gd, 0, none⟩)] 25)) 3 #[.int .i64 a]).alloc (.cells #[.int .i64 m] 3)).alloc (.cells #[.pointer none] 29)).alloc errBox)
    simpa using this
  have b2 : Has (W.alloc errBox) (w.heap.size + 2) 3 #[.int .i64 m] := by
    rw [hW]
    have := (((Has.new ((w.alloc (.cells #[.pointer (some ⟨gd, 0, none⟩)] 25)).alloc (.cells #[.int .i64 a] 3)) 3 #[.int .i64 m]).alloc (.cells #[.pointer none] 29)).alloc errBox)
    simpa using this
  have b3 : Has (W.alloc errBox) (w.heap.size + 3) 29 #[.pointer none] := by
    rw [hW]
    have := ((Has.new (((w.alloc (.cells #[.pointer (some ⟨gd, 0, none⟩)] 25)).alloc (.cells #[.int .i64 a] 3)).alloc (.cells #[.int .i64 m] 3)) 29 #[.pointer none]).alloc errBox)
    simpa using this
  have C1 := hin _ kE sE b0 b1 b2 b3
  have C := Lib.hid (caught_any 50 _ Tryz.enterOpen1 W r (fun w' => ∃ v, Has w' (w.heap.size + 3) 29 #[.pointer v] ∧ PR v w' ∧ Only (fun i => i = w.heap.size + 3 ∨ (W.alloc errBox).heap.size ≤ i) (W.alloc errBox) w') (C1.mono fun e w' hh => ⟨hh.1, by
    obtain ⟨_, _, _, _, o⟩ := hh
    exact (Has.new W 26 #[.int .i64 0]).only o (fun h => by
      rcases h with h | h
      · omega
      · rw [sE] at h
        omega), hh.2⟩))
  have R : Hid (∀ w1 w', (∃ v, Has w1 (w.heap.size + 3) 29 #[.pointer v] ∧ PR v w1 ∧ Only (fun i => i = w.heap.size + 3 ∨ (W.alloc errBox).heap.size ≤ i) (W.alloc errBox) w1) → Only (fun i => i = W.heap.size) w1 w' → ∃ v, w'.cell? ⟨w.heap.size + 3, 0, none⟩ = some (.pointer v) ∧ PR v w' ∧ Below w.heap.size w w') := by
    rintro w1 w' ⟨v, q1, q2, q3⟩ k2
    refine ⟨v, (q1.only k2 (fun e => by omega)).cell 0, hk v w1 w' q2 (k2.mono (fun i _ e => by omega)), ?_⟩
    have := q3.size
    exact (((kE.below (B := w.heap.size) (Nat.le_refl _) (fun _ _ h => h)).trans (q3.below (by omega) (fun i hi h => by
      rcases h with h | h
      · omega
      · rw [sE] at h
        omega))).trans (k2.below (by omega) (fun i hi e => by omega)))
  rw [hW] at C R
  clear b0 b1 b2 b3 C1 kE sE sW hW hin hk
  go_enter Tryz.func21, Tryz.ntmps21
  go_wp2_with fail
  refine C.out.mono ?_
  rintro e w' ⟨rfl, w1, hd, k2⟩
  obtain ⟨v, cv, q2, q3⟩ := R.out w1 w' hd k2
  have R2 := Lib.hid q2
  have R3 := Lib.hid q3
  clear C R hd k2 q2 q3
  go_wp2
  go_ret2
  exact ⟨_, rfl, R2.out, R3.out⟩
section
variable (F E : Nat → Prop) (gd : Nat) (s : D) (w : World) (h : Dk w F E gd s)
include h
set_option maxHeartbeats 1000000 in
theorem open1_not (a m : Int) (p0 p1 p2 p3 : Nat) (ht : there s.kept.length a m = false) (b0 : Has w p0 25 #[.pointer (some ⟨gd, 0, none⟩)]) (b1 : Has w p1 3 #[.int .i64 a]) (b2 : Has w p2 3 #[.int .i64 m]) :
    Calls Tryz.prog 50 #[.pointer (some ⟨p0, 0, none⟩), .pointer (some ⟨p1, 0, none⟩), .pointer (some ⟨p2, 0, none⟩), .pointer (some ⟨p3, 0, none⟩)] w fun e w' => e = endsIn 1 ∧ Only (fun _ => False) w w' := by
  have C0 := mustbethere_any F E gd s w h a m
  rw [endsB_no ht] at C0
  have C0 := Lib.hid C0
  have c0 := b0.cell 0
  have c1 := b1.cell 0
  have c2 := b2.cell 0
  simp at c0 c1 c2
  clear h b0 b1 b2 ht
  go_enter Tryz.func50, Tryz.ntmps50
  go_wp2_with fail
  refine C0.out.mono ?_
  rintro e w1 ⟨rfl, n, rfl⟩
  go_wp2
  exact ⟨rfl, rfl, (Only.refl _ w).drewN n⟩

/-- Open finds the book that is there. -/
theorem open_yes (a m : Nat) (ho : s.off = false) (hz : 64 ≤ s.size) (ht : there s.kept.length (a : Int) (m : Int) = true) (hok : OpenOk s (openG s a m)) :
    Calls Tryz.prog 21 #[.pointer (some ⟨gd, 0, none⟩), .int .i64 (a : Int), .int .i64 (m : Int)] w fun e w' => ∃ gb, e = .returned (.tuple #[.pointer (some ⟨gb, 0, none⟩), .int .i64 0]) ∧ (∃ G, St w' F E G gd s gb (openG s a m) (fun _ => none) ∧ ∀ i, G i → w.heap.size ≤ i) ∧ Below w.heap.size w w' := by
  have hl := h.lt
  refine (open_wrap gd w a m 0 (fun v w' => ∃ gb, v = some ⟨gb, 0, none⟩ ∧ ∃ G, St w' F E G gd s gb (openG s a m) (fun _ => none) ∧ ∀ i, G i → w.heap.size + 5 ≤ i) (fun w1 k1 s1 b0 b1 b2 b3 => ?_) ?_).mono ?_
  · refine (open1_there F E gd s w1 (h.only k1 (fun _ _ h => h.elim)) a m _ _ _ _ ho hz ht b0 b1 b2 b3 ⟨fun hF => by have := hl.2.2.1 _ hF; omega, fun hE => by have := hl.2.2.2.1 _ hE; omega⟩).mono ?_
    rintro e w' ⟨r, rfl, ⟨rfl, _, gb, G, q1, q2, q3⟩ | ⟨rfl, hn, _⟩, q4⟩
    · exact ⟨rfl, _, q1, ⟨gb, rfl, G, q2, fun i hi => by have := q3 i hi; omega⟩, q4⟩
    · exact absurd hok hn
  · rintro v w1 w2 ⟨gb, rfl, G, q2, q3⟩ k
    refine ⟨gb, rfl, G, q2.only k (fun i _ e => ⟨fun hF => ?_, fun hE => ?_, fun hG => ?_⟩), q3⟩
    · have := hl.2.2.1 _ hF
      omega
    · have := hl.2.2.2.1 _ hE
      omega
    · have := q3 _ hG
      omega
  · rintro e w' ⟨v, rfl, ⟨gb, rfl, G, q2, q3⟩, q4⟩
    exact ⟨gb, rfl, ⟨G, q2, fun i hi => by have := q3 i hi; omega⟩, q4⟩
/-- There is none. -/
theorem open_form (a m : Nat) (ho : s.off = false) (hz : 64 ≤ s.size) (ht : there s.kept.length (a : Int) (m : Int) = true) (hok : ¬ OpenOk s (openG s a m)) :
    Calls Tryz.prog 21 #[.pointer (some ⟨gd, 0, none⟩), .int .i64 (a : Int), .int .i64 (m : Int)] w fun e w' => e = .returned (.tuple #[.pointer none, .int .i64 2]) ∧ Below w.heap.size w w' := by
  have hl := h.lt
  refine (open_wrap gd w a m 2 (fun v w' => v = none) (fun w1 k1 s1 b0 b1 b2 b3 => ?_) (fun _ _ _ h _ => h)).mono ?_
  · refine (open1_there F E gd s w1 (h.only k1 (fun _ _ h => h.elim)) a m _ _ _ _ ho hz ht b0 b1 b2 b3 ⟨fun hF => by have := hl.2.2.1 _ hF; omega, fun hE => by have := hl.2.2.2.1 _ hE; omega⟩).mono ?_
    rintro e w' ⟨r, rfl, ⟨rfl, hn, _⟩ | ⟨rfl, _, q1⟩, q4⟩
    · exact absurd hn hok
    · exact ⟨rfl, _, q1, rfl, q4⟩
  · rintro e w' ⟨v, rfl, rfl, q4⟩
    exact ⟨rfl, q4⟩
/-- The sectors are not all there. -/
theorem open_not (a m : Int) (ht : there s.kept.length a m = false) :
    Calls Tryz.prog 21 #[.pointer (some ⟨gd, 0, none⟩), .int .i64 a, .int .i64 m] w fun e w' => e = .returned (.tuple #[.pointer none, .int .i64 1]) ∧ Below w.heap.size w w' := by
  refine (open_wrap gd w a m 1 (fun v w' => v = none) (fun w1 k1 s1 b0 b1 b2 b3 => ?_) (fun _ _ _ h _ => h)).mono ?_
  · refine (open1_not F E gd s w1 (h.only k1 (fun _ _ h => h.elim)) a m _ _ _ _ ht b0 b1 b2).mono ?_
    rintro e w' ⟨rfl, k⟩
    exact ⟨rfl, _, b3.only k (fun h => h), rfl, k.mono (fun _ _ h => h.elim)⟩
  · rintro e w' ⟨v, rfl, rfl, q4⟩
    exact ⟨rfl, q4⟩
end
end Go.Proofs.YtnhojcldeloigaaGreat
namespace Go.Proofs.YtnhojcldeloigaaGreat
open Go.RowKit Go.Lib Go.Maps
set_option maxRecDepth 100000

theorem rooted_of {g : BG} {ls : List (List UInt8)} {l : Nat} {sl : List UInt8} {P : Nat → List UInt8} (h : Rep g ls l sl P) : g.rooted ls = true ∧ g.lst ls = l := by
  have hl : g.lst ls = l := by
    have h2 := h.two
    unfold BG.lst
    rw [h.root]
    have : l = 0 ∨ l = 1 := by omega
    rcases this with rfl | rfl <;> simp [lstOf, num2, rootB, markB, le2, List.getD]
  refine ⟨?_, hl⟩
  unfold BG.rooted
  rw [decide_eq_true_eq, hl]
  exact h.root
/-- The byte of a list that tells a page. -/
theorem slots_byte {g : BG} {N : Nat} {ls : List (List UInt8)} {l p : Nat} (ok : g.Ok N) (hlen : ∀ i, i < g.n → (g.sec ls i).length = g.z) (hl : l < 2) (hp : p < g.k) :
    p / (4 * g.z) < g.M ∧ (g.slots ls l).getD (p / 4) 0 = (g.sec ls (g.listP l + p / (4 * g.z))).getD (p % (4 * g.z) / 4) 0 := by
  have hz : 0 < g.z := by have := ok.z1; omega
  have he := ok.enough
  have hM : p / (4 * g.z) < g.M := by
    rw [Nat.div_lt_iff_lt_mul (by omega)]
    have : g.M * (4 * g.z) = 4 * (g.M * g.z) := by rw [← Nat.mul_assoc, Nat.mul_comm g.M 4, Nat.mul_assoc]
    omega
  refine ⟨hM, ?_⟩
  have key : ∀ (m j i : Nat), j < m → m ≤ g.M → i < g.z → (g.slotsTo ls l m).getD (j * g.z + i) 0 = (g.sec ls (g.listP l + j)).getD i 0 := by
    intro m
    induction m with
    | zero => intro j i hj; omega
    | succ m ih =>
      intro j i hj hm hi
      have hlm := slotsTo_len (ls := ls) l m hlen ok hl (by omega)
      rw [slotsTo_succ]
      by_cases hjm : j < m
      · have hlt : j * g.z + i < (g.slotsTo ls l m).length := by
          have : (j + 1) * g.z ≤ m * g.z := Nat.mul_le_mul_right _ hjm
          rw [Nat.succ_mul] at this
          omega
        have := ih j i hjm (by omega) hi
        simp only [List.getD] at this ⊢
        rw [List.getElem?_append_left hlt]
        exact this
      · have : j = m := by omega
        subst this
        simp only [List.getD]
        rw [List.getElem?_append_right (by omega)]
        congr 2
        omega
  have hi : p % (4 * g.z) / 4 < g.z := by
    have := Nat.mod_lt p (show 0 < 4 * g.z by omega)
    omega
  have hd : p / 4 = p / (4 * g.z) * g.z + p % (4 * g.z) / 4 := by
    have h1 := Nat.div_add_mod p (4 * g.z)
    have h2 : 4 * g.z * (p / (4 * g.z)) = 4 * (p / (4 * g.z) * g.z) := by rw [Nat.mul_assoc, Nat.mul_comm g.z]
    omega
  rw [slots_to, hd]
  exact key g.M _ _ hM (Nat.le_refl _) hi
theorem slot_mod {g : BG} (p : Nat) : p % (4 * g.z) % 4 = p % 4 := Nat.mod_mod_of_dvd p ⟨g.z, rfl⟩

theorem SlIs.cutTo {w : World} {lo hi n c k : Nat} {A : Option Addr} {b : List UInt8} (h : SlIs w lo hi (.slice A n c) b) (hk : k ≤ b.length) : SlIs w lo hi (.slice A k c) (b.take k) := by
  obtain ⟨A', c', e, h1, h2, h3⟩ := h
  injection e with e1 _ e3
  subst e1 e3
  have hl : (b.take k).length = k := by simp; omega
  exact ⟨A, c, by rw [hl], by omega, h2, h3.take k⟩
theorem SlIs.wide8 {w : World} {lo hi lo' hi' : Nat} {v : Value} {b : List UInt8} (h : SlIs w lo hi v b) (h1 : lo' ≤ lo) (h2 : hi ≤ hi') : SlIs w lo' hi' v b := by
  obtain ⟨A, c, e, q1, q2, q3⟩ := h
  exact ⟨A, c, e, q1, q2, q3.wide h1 h2⟩
section
variable (F E G : Nat → Prop) (gd gb : Nat) (s : D) (g : BG) (ch : Nat → Option (List UInt8)) (w : World) (h : St w F E G gd s gb g ch)
include h
set_option maxHeartbeats 1600000 in
theorem pglasting_any (l : Nat) (sl : List UInt8) (P : Nat → List UInt8) (p : Nat) (ho : s.off = false) (hr : Rep g s.seen l sl P) (hp : p < g.k) :
    Calls Tryz.prog 56 #[.pointer (some ⟨gb, 0, none⟩), .int .i64 (p : Int)] w fun e w' => ∃ A c, e = .returned (.slice A (g.z - 16) c) ∧ SlIs w' w.heap.size w'.heap.size (.slice A (g.z - 16) c) (P p) ∧ Below w.heap.size w w' := by
  have hok := h.ok
  have hz1 := hok.z1
  have hz2 := hok.z2
  have hk2 := hok.k2
  have hn := hok.room
  have hL4 := hok.L4
  obtain ⟨hrt, hlst⟩ := rooted_of hr
  obtain ⟨hq1, hq2⟩ := slots_byte hok h.secs hr.two hp
  obtain ⟨hs1, hs2⟩ := hr.slot hok hp
  have hP := hok.lp hr.two
  have HS := Lib.hid (fun w' (k : Below w.heap.size w w') => h.below k)
  have hzi : (g.z : Int) = ((g.z : Nat) : Int) := rfl
  obtain ⟨q, hq⟩ : ∃ q, q = p / (4 * g.z) := ⟨_, rfl⟩
  obtain ⟨i, hi⟩ : ∃ i, i = p % (4 * g.z) := ⟨_, rfl⟩
  have e1 : (p : Int).tdiv (4 * (g.z : Int)) = (q : Int) := by rw [Int.tdiv_eq_ediv_of_nonneg (by omega), hq]; rfl
  have e2 : (p : Int).tmod (4 * (g.z : Int)) = (i : Int) := by rw [Int.tmod_eq_emod_of_nonneg (by omega), hi]; rfl
  have e1' : (p : Int) / (4 * (g.z : Int)) = (q : Int) := by rw [hq]; rfl
  have e2' : (p : Int) % (4 * (g.z : Int)) = (i : Int) := by rw [hi]; rfl
  have n0 : ¬ (4 * (g.z : Int) = 0) := by omega
  have CH0 := pgholds_any F E G gd gb s g ch w.drew (h.new ((Only.refl _ w).drew)) ho
  rw [hrt, if_pos rfl, hlst] at CH0
  have CH : Hid (Calls Tryz.prog 53 #[.pointer (some ⟨gb, 0, none⟩)] w.drew fun e w' => e = .returned (.int .i64 (l : Int)) ∧ Below w.heap.size w w') := CH0.mono fun e w' hh => ⟨hh.1, hh.2.os, hh.2.tape, hh.2.output, hh.2.size, hh.2.block⟩
  obtain ⟨gm, hb⟩ := h.bk
  have GM := Lib.hid (fun w' (k : Below w.heap.size w w') => (World.cell?_of_block (a := ⟨gb, 3, none⟩) (k.block gb hb.has.lt)).trans hb.cells.2.2.2.1)
  have c3 := hb.cells.2.2.2.1
  have hl2 := hr.two
  have hv : crumb ((g.sec s.seen (g.listP l + q)).getD (i / 4) 0) (i % 4) = slotOf sl p := by
    rw [← hr.slots, slotOf, hq2, hi, slot_mod, hq]
  have hi4 : i / 4 < g.z := by
    have := Nat.mod_lt p (show 0 < 4 * g.z by omega)
    omega
  have hqM : q < g.M := by rw [hq]; exact hq1
  have hML4 := Nat.le_trans hok.ML hL4
  have ew1 : IntKind.i64.wrap (q : Int) = (q : Int) := IntWalk.i64_in _ (by omega)
  have ew2 : IntKind.i64.wrap ((g.listP l : Int) + (q : Int)) = (g.listP l : Int) + (q : Int) := IntWalk.i64_in _ (by omega)
  have HPg := Lib.hid (hr.page p hp)
  have HV := Lib.hid hv
  obtain ⟨v, hvd⟩ : ∃ v, v = slotOf sl p := ⟨_, rfl⟩
  rw [← hvd] at hs1 HV
  have HVD := Lib.hid hvd
  clear h hok CH0 hrt hlst hq1 hq2 hs2 hb hq hi hr hzi hv hvd
  go_enter Tryz.func56, Tryz.ntmps56
  go_upto_region 2 with fail
  refine wp_region_held_drew (S := fun w' => True) (by kernel_rfl) ?_ (fun hHeld => ?_)
  · exact trivial
  refine takeH (i := 0) (d := 13) (v := ?_) (by kernel_rfl) (by kernel_rfl) (by kernel_rfl) rfl (fun _ _ _ h => h) (by rfl) ?_ hHeld ?_
  rotate_left
  · intro o ho w hSw
    cases ho
    go_simp
    try with_reducible rfl
  simp only [Act.put, List.setIfInBounds_toArray, List.set_cons_zero, List.set_cons_succ]
  refine takeH (i := 1) (d := 14) (v := ?_) (by kernel_rfl) (by kernel_rfl) (by kernel_rfl) rfl (fun _ _ _ h => h) (by rfl) ?_ hHeld ?_
  rotate_left
  · intro o ho w hSw
    cases ho
    go_simp
    try with_reducible rfl
  simp only [Act.put, List.setIfInBounds_toArray, List.set_cons_zero, List.set_cons_succ]
  refine takeH (i := 2) (d := 15) (v := ?_) (by kernel_rfl) (by kernel_rfl) (by kernel_rfl) rfl (fun _ _ _ h => h) (by rfl) ?_ hHeld ?_
  rotate_left
  · intro o ho w hSw
    cases ho
    go_simp
    try with_reducible rfl
  simp only [Act.put, List.setIfInBounds_toArray, List.set_cons_zero, List.set_cons_succ]
  refine takeH (i := 5) (d := 18) (v := ?_) (by kernel_rfl) (by kernel_rfl) (by kernel_rfl) rfl (fun _ _ _ h => h) (by rfl) ?_ hHeld ?_
  rotate_left
  · intro o ho w hSw
    cases ho
    go_simp
    try with_reducible rfl
  simp only [Act.put, List.setIfInBounds_toArray, List.set_cons_zero, List.set_cons_succ]
  refine takeH (i := 6) (d := 19) (v := ?_) (by kernel_rfl) (by kernel_rfl) (by kernel_rfl) rfl (fun _ _ _ h => h) (by rfl) ?_ hHeld ?_
  rotate_left
  · intro o ho w hSw
    cases ho
    go_simp
    try with_reducible rfl
  simp only [Act.put, List.setIfInBounds_toArray, List.set_cons_zero, List.set_cons_succ]
  refine takeH (i := 7) (d := 20) (v := ?_) (by kernel_rfl) (by kernel_rfl) (by kernel_rfl) rfl (fun _ _ _ h => h) (by rfl) ?_ hHeld ?_
  rotate_left
  · intro o ho w hSw
    cases ho
    go_simp
    try with_reducible rfl
  simp only [Act.put, List.setIfInBounds_toArray, List.set_cons_zero, List.set_cons_succ]
  refine wpAnyH_ready (rs := [3]) (by kernel_rfl) (by simp) ?_
  refine AllReadyH.cons rfl (fun K hK => ?_) AllReadyH.nil
  go_simp
  refine CH.out.mono ?_
  rintro e w1 ⟨rfl, lo1⟩
  have S1 := Lib.hid (HS.out w1 lo1)
  have LO1 := Lib.hid lo1
  clear lo1 CH
  try go_wp2_with fail
  refine hK.out _ _ ?_ (fun hHeld => ?_)
  · exact trivial
  clear hK K
  refine wpAnyH_ready (rs := [4]) (by kernel_rfl) (by simp) ?_
  refine AllReadyH.cons rfl (fun K hK => ?_) AllReadyH.nil
  go_simp
  refine (listplace_any F E G gd gb s g ch w1 S1.out l (by omega)).mono ?_
  rintro e w1' ⟨rfl, rfl⟩
  try go_wp2_with fail
  refine hK.out _ _ ?_ (fun hHeld => ?_)
  · exact trivial
  clear hK K
  refine takeH (i := 8) (d := 21) (v := ?_) (by kernel_rfl) (by kernel_rfl) (by kernel_rfl) rfl (fun _ _ _ h => h) (by rfl) ?_ hHeld ?_
  rotate_left
  · intro o ho w hSw
    cases ho
    go_simp
    try with_reducible rfl
  simp only [Act.put, List.setIfInBounds_toArray, List.set_cons_zero, List.set_cons_succ]
  have CR := Lib.hid (pgread_on F E G gd gb s g ch w1 S1.out (g.listP l + q) ho (by omega))
  rw [Int.natCast_add] at CR
  refine wpAnyH_ready (rs := [9]) (by kernel_rfl) (by simp) ?_
  refine AllReadyH.cons rfl (fun K hK => ?_) AllReadyH.nil
  go_simp
  refine CR.out.mono ?_
  rintro e w2 ⟨A2, c2, rfl, hx2, x2, lo2⟩
  have X2 := Lib.hid x2
  have HX2 := Lib.hid hx2
  have LO2 := Lib.hid (LO1.out.trans (lo2.mono LO1.out.size))
  have S2 := Lib.hid (HS.out w2 LO2.out)
  clear x2 hx2 lo2 CR S1
  try go_wp2_with fail
  refine hK.out _ _ ?_ (fun hHeld => ?_)
  · exact trivial
  clear hK K
  refine takeH (i := 10) (d := 6) (v := ?_) (by kernel_rfl) (by kernel_rfl) (by kernel_rfl) rfl (fun _ _ _ h => h) (by rfl) ?_ hHeld ?_
  rotate_left
  · intro o ho w hSw
    cases ho
    go_simp
    try with_reducible rfl
  simp only [Act.put, List.setIfInBounds_toArray, List.set_cons_zero, List.set_cons_succ]
  refine wpAnyH_done (by kernel_rfl) ?_ _
  have hxq : (g.sec s.seen (g.listP l + q)).length = g.z := HX2.out
  obtain ⟨ad2, hA2, hcell⟩ : ∃ ad, A2 = some ad ∧ w2.cell? (ad.add (i / 4)) = some (b8 ((g.sec s.seen (g.listP l + q)).getD (i / 4) 0)) := by
    obtain ⟨A', c', e, _, _, q3⟩ := X2.out
    injection e with e1 e2 e3
    obtain ⟨ad, e4, _, _, q4⟩ := q3 (by omega)
    refine ⟨ad, by rw [e1, e4], ?_⟩
    have hh : i / 4 < (g.sec s.seen (g.listP l + q)).length := by omega
    rw [q4 _ _ (b8s_get hh)]
    simp [List.getD, hh]
  subst hA2
  have C3 := Lib.hid (slotof_any ad2 g.z c2 i _ w2 (by omega) hi4 hcell)
  rw [HV.out] at C3
  clear hcell X2 HX2 hxq hi4
  go_wp2_with fail
  refine C3.out.mono ?_
  rintro e w3 ⟨rfl, n3, rfl⟩
  have LO4 : Hid (Below w.heap.size w (w2.drewN n3)) := ⟨LO2.out.os, LO2.out.tape, LO2.out.output, LO2.out.size, LO2.out.block⟩
  have S4 := Lib.hid (HS.out _ LO4.out)
  have c3 := GM.out _ LO4.out
  have hp1 : p ≤ 1024 := by omega
  generalize w2.drewN n3 = w4 at LO4 S4 c3 ⊢
  clear LO2 S2 C3
  have hz16 : ((g.z - 16 : Nat) : Int) = (g.z : Int) - 16 := by omega
  have ew3 : IntKind.i64.wrap ((g.z : Int) - 16) = (g.z : Int) - 16 := IntWalk.i64_in _ (by omega)
  by_cases h0 : v = 0
  · have HP0 : Hid (P p = zpage g.z) := by
      show P p = _
      rw [HPg.out, BG.page, if_pos (by rw [← HVD.out, h0])]
    obtain ⟨w5, hmk, o5, k5, s5⟩ := make_bytes (g.z - 16) (by omega) w4
    rw [hz16] at hmk
    have R : Hid (SlIs w5 w.heap.size w5.heap.size (.slice (some ⟨w4.heap.size, 0, none⟩) (g.z - 16) (g.z - 16)) (P p) ∧ Below w.heap.size w w5) := by
      rw [HP0.out]
      have hl : (zpage g.z).length = g.z - 16 := by simp [zpage]
      have q := owns_SlIs (bs := zpage g.z) (by rw [hl]; exact o5)
      obtain ⟨A', c', e, q1, q2, q3⟩ := q
      exact ⟨⟨A', c', e, q1, q2, q3.wide LO4.out.size (Nat.le_refl _)⟩, LO4.out.trans (k5.below LO4.out.size (fun _ _ h => h))⟩
    subst h0
    clear o5 k5 s5 HP0 HPg HVD hs1
    go_wp2
    go_ret
    exact ⟨_, _, rfl, R.out.1, R.out.2⟩
  · have d0 : ((v : Int) == 0) = false := by simpa using (show ¬ ((v : Int) = 0) by omega)
    have n0' : ¬ ((v : Int) = 0) := by omega
    have d2 : decide ((v : Int) ≤ 2) = true := decide_eq_true (by omega)
    have HP1 : Hid (P p = (g.sec s.seen (g.slotP p v)).take (g.z - 16)) := by
      show P p = _
      rw [HPg.out, BG.page, if_neg (by rw [← HVD.out]; exact h0), ← HVD.out]
    have h16 : (16 : Int) ≤ (g.z : Int) := by omega
    have ht16 : ((g.z : Int) - 16).toNat = g.z - 16 := by omega
    have hsp : g.slotP p v < g.n := by simp only [BG.slotP]; omega
    have LO4d : Hid (Below w.heap.size w w4.drew) := ⟨LO4.out.os, LO4.out.tape, LO4.out.output, LO4.out.size, LO4.out.block⟩
    have S4d := Lib.hid (HS.out _ LO4d.out)
    have CR7 := Lib.hid (pgread_on F E G gd gb s g ch w4.drew S4d.out (g.slotP p v) ho hsp)
    generalize g.sec s.seen (g.slotP p v) = x at CR7 HP1
    clear HPg HVD hsp
    go_wp2_with fail
    refine (must_yes 2 _).mono ?_
    rintro e w4' ⟨rfl, rfl⟩
    go_upto_region 7 with fail
    refine wp_region_held_drew (S := fun w' => w'.cell? ⟨gb, 3, none⟩ = some (.int .i64 (g.z : Int))) (by kernel_rfl) ?_ (fun hHeld => ?_)
    · exact c3
    refine takeH (i := 0) (d := 39) (v := ?_) (by kernel_rfl) (by kernel_rfl) (by kernel_rfl) rfl (fun _ _ _ h => h) (by rfl) ?_ hHeld ?_
    rotate_left
    · intro o ho w hSw
      cases ho
      have h1 := hSw
      go_simp
      try with_reducible rfl
    simp only [Act.put, List.setIfInBounds_toArray, List.set_cons_zero, List.set_cons_succ]
    refine takeH (i := 1) (d := 40) (v := ?_) (by kernel_rfl) (by kernel_rfl) (by kernel_rfl) rfl (fun _ _ _ h => h) (by rfl) ?_ hHeld ?_
    rotate_left
    · intro o ho w hSw
      cases ho
      have h1 := hSw
      go_simp
      try with_reducible rfl
    simp only [Act.put, List.setIfInBounds_toArray, List.set_cons_zero, List.set_cons_succ]
    refine takeH (i := 2) (d := 41) (v := ?_) (by kernel_rfl) (by kernel_rfl) (by kernel_rfl) rfl (fun _ _ _ h => h) (by rfl) ?_ hHeld ?_
    rotate_left
    · intro o ho w hSw
      cases ho
      have h1 := hSw
      go_simp
      try with_reducible rfl
    simp only [Act.put, List.setIfInBounds_toArray, List.set_cons_zero, List.set_cons_succ]
    refine takeH (i := 3) (d := 42) (v := ?_) (by kernel_rfl) (by kernel_rfl) (by kernel_rfl) rfl (fun _ _ _ h => h) (by rfl) ?_ hHeld ?_
    rotate_left
    · intro o ho w hSw
      cases ho
      have h1 := hSw
      go_simp
      try with_reducible rfl
    simp only [Act.put, List.setIfInBounds_toArray, List.set_cons_zero, List.set_cons_succ]
    refine takeH (i := 6) (d := 45) (v := ?_) (by kernel_rfl) (by kernel_rfl) (by kernel_rfl) rfl (fun _ _ _ h => h) (by rfl) ?_ hHeld ?_
    rotate_left
    · intro o ho w hSw
      cases ho
      have h1 := hSw
      go_simp
      try with_reducible rfl
    simp only [Act.put, List.setIfInBounds_toArray, List.set_cons_zero, List.set_cons_succ]
    refine takeH (i := 7) (d := 46) (v := ?_) (by kernel_rfl) (by kernel_rfl) (by kernel_rfl) rfl (fun _ _ _ h => h) (by rfl) ?_ hHeld ?_
    rotate_left
    · intro o ho w hSw
      cases ho
      have h1 := hSw
      go_simp
      try with_reducible rfl
    simp only [Act.put, List.setIfInBounds_toArray, List.set_cons_zero, List.set_cons_succ]
    refine takeH (i := 8) (d := 47) (v := ?_) (by kernel_rfl) (by kernel_rfl) (by kernel_rfl) rfl (fun _ _ _ h => h) (by rfl) ?_ hHeld ?_
    rotate_left
    · intro o ho w hSw
      cases ho
      have h1 := hSw
      go_simp
      try with_reducible rfl
    simp only [Act.put, List.setIfInBounds_toArray, List.set_cons_zero, List.set_cons_succ]
    refine takeH (i := 9) (d := 48) (v := ?_) (by kernel_rfl) (by kernel_rfl) (by kernel_rfl) rfl (fun _ _ _ h => h) (by rfl) ?_ hHeld ?_
    rotate_left
    · intro o ho w hSw
      cases ho
      have h1 := hSw
      go_simp
      try with_reducible rfl
    simp only [Act.put, List.setIfInBounds_toArray, List.set_cons_zero, List.set_cons_succ]
    refine takeH (i := 10) (d := 49) (v := ?_) (by kernel_rfl) (by kernel_rfl) (by kernel_rfl) rfl (fun _ _ _ h => h) (by rfl) ?_ hHeld ?_
    rotate_left
    · intro o ho w hSw
      cases ho
      have h1 := hSw
      go_simp
      try with_reducible rfl
    simp only [Act.put, List.setIfInBounds_toArray, List.set_cons_zero, List.set_cons_succ]
    refine wpAnyH_ready (rs := [4]) (by kernel_rfl) (by simp) ?_
    refine AllReadyH.cons rfl (fun K hK => ?_) AllReadyH.nil
    go_simp
    refine (slotplace_any F E G gd gb s g ch _ S4d.out p v (by omega) (by omega)).mono ?_
    rintro e w4' ⟨rfl, rfl⟩
    try go_wp2_with fail
    refine hK.out _ _ ?_ (fun hHeld => ?_)
    · exact c3
    clear hK K
    refine wpAnyH_ready (rs := [5]) (by kernel_rfl) (by simp) ?_
    refine AllReadyH.cons rfl (fun K hK => ?_) AllReadyH.nil
    go_simp
    refine CR7.out.mono ?_
    rintro e w5 ⟨A5, c5, rfl, hx5, x5, lo5⟩
    have X5 := Lib.hid x5
    have HX5 := Lib.hid hx5
    have LO5 := Lib.hid (LO4d.out.trans (lo5.mono LO4d.out.size))
    have c35 : w5.cell? ⟨gb, 3, none⟩ = some (.int .i64 (g.z : Int)) := GM.out w5 LO5.out
    obtain ⟨ad5, hA5, hc5⟩ : ∃ ad, A5 = some ad ∧ g.z ≤ c5 := by
      obtain ⟨A', c', e, q1, q2, q3⟩ := X5.out
      injection e with e1 e2 e3
      obtain ⟨ad, e4, _⟩ := q3 (by omega)
      exact ⟨ad, by rw [e1, e4], by omega⟩
    subst hA5
    have hc5i : (g.z : Int) - 16 ≤ (c5 : Int) := by omega
    clear x5 hx5 lo5 CR7 S4d
    try go_wp2_with fail
    refine hK.out _ _ ?_ (fun hHeld => ?_)
    · exact c35
    clear hK K
    refine takeH (i := 11) (d := 50) (v := ?_) (by kernel_rfl) (by kernel_rfl) (by kernel_rfl) rfl (fun _ _ _ h => h) (by rfl) ?_ hHeld ?_
    rotate_left
    · intro o ho w hSw
      cases ho
      have h1 := hSw
      go_simp
      try with_reducible rfl
    simp only [Act.put, List.setIfInBounds_toArray, List.set_cons_zero, List.set_cons_succ]
    refine takeH (i := 12) (d := 4) (v := ?_) (by kernel_rfl) (by kernel_rfl) (by kernel_rfl) rfl (fun _ _ _ h => h) (by rfl) ?_ hHeld ?_
    rotate_left
    · intro o ho w hSw
      cases ho
      have h1 := hSw
      go_simp
      try with_reducible rfl
    simp only [Act.put, List.setIfInBounds_toArray, List.set_cons_zero, List.set_cons_succ]
    refine wpAnyH_done (by kernel_rfl) ?_ _
    go_wp2
    go_ret
    rw [HP1.out]
    exact ⟨_, _, rfl, ((X5.out.cutTo (k := g.z - 16) (by have := HX5.out; omega))).wide8 LO4.out.size (Nat.le_refl _), LO5.out⟩
end
end Go.Proofs.YtnhojcldeloigaaGreat
