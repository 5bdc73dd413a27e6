/-
  Package pages: root, holds.
-/
import Derived.Test.YtnhojcldeloigaaGreatPagesC
import Derived.Test.YtnhojcldeloigaaGreatCopyB
namespace Go.Proofs.YtnhojcldeloigaaGreat
open Go.RowKit Go.Lib Go.Maps
set_option maxRecDepth 100000

def put2 (l : List UInt8) (i v : Nat) : List UInt8 := (l.set i (UInt8.ofNat v)).set (i + 1) (UInt8.ofNat (v / 256))
theorem put2_length (l : List UInt8) (i v : Nat) : (put2 l i v).length = l.length := by simp [put2]
theorem root_is (z n k l : Nat) (hz : 16 ≤ z) : put2 (put2 (put2 (put2 (cpy z markB) 8 z) 10 n) 12 k) 14 l = rootB z n k l := by
  obtain ⟨m, rfl⟩ : ∃ m, z = 16 + m := ⟨z - 16, by omega⟩
  have e1 : cpy (16 + m) markB = markB ++ (List.replicate 8 0 ++ List.replicate m 0) := by
    rw [cpy, List.take_of_length_le (by simp [markB]; omega), List.replicate_append_replicate]
    congr 2
    simp [markB]
    omega
  have e2 : 16 + m - 16 = m := by omega
  rw [e1, rootB, e2]
  simp [put2, markB, le2, List.replicate]
/-- Two bytes set in a row of one's own. -/
theorem putnumber_own {B g n i v : Nat} {l : List UInt8} {w : World} (h : w.ownsRow B 5 1 (.slice (some ⟨g, 0, none⟩) n n) n (b8s l)) (hn : n ≤ 1000000) (hi : i + 1 < n) :
    Calls Tryz.prog 89 #[.slice (some ⟨g, 0, none⟩) n n, .int .i64 (i : Int), .int .i64 (v : Int)] w fun e w' => e = .returned (.tuple #[]) ∧ w'.ownsRow B 5 1 (.slice (some ⟨g, 0, none⟩) n n) n (b8s (put2 l i v)) ∧ Only (fun j => j = g) w w' := by
  have hl : l.length = n := by have := h.1; rw [b8s_length] at this; omega
  have c0 := World.ownsRow.cellAt h i (by omega)
  have c1 := World.ownsRow.cellAt h (i + 1) (by omega)
  have f0 := World.ownsRow.frozenAt h i
  have f1 := World.ownsRow.frozenAt h (i + 1)
  rw [b8s_get (by omega)] at c0 c1
  refine (putnumber_any g n n i v _ _ w hn hi c0 c1 f0 f1).mono fun e w' hh => ⟨hh.1, ?_⟩
  rw [hh.2]
  obtain ⟨o1, k1⟩ := set_byte h i (UInt8.ofNat v)
  obtain ⟨o2, k2⟩ := set_byte o1 (i + 1) (UInt8.ofNat (v / 256))
  exact ⟨o2, k1.trans k2 (fun _ _ h => h)⟩

section
variable (F E G : Nat → Prop) (gd gb : Nat) (s : D) (g : BG) (ch : Nat → Option (List UInt8)) (w : World) (h : St w F E G gd s gb g ch)
include h
/-- New bytes. -/
def NewB (w : World) (z : Nat) (l : List UInt8) (e : Ending) (w' : World) : Prop := e = .returned (.slice (some ⟨w.heap.size, 0, none⟩) z z) ∧ w'.ownsRow w.heap.size 5 1 (.slice (some ⟨w.heap.size, 0, none⟩) z z) z (b8s l) ∧ Below w.heap.size w w'
set_option maxHeartbeats 2000000 in
theorem pgroot_any (l : Nat) : Calls Tryz.prog 70 #[.pointer (some ⟨gb, 0, none⟩), .int .i64 (l : Int)] w (NewB w g.z (rootB g.z g.n g.k l)) := by
  have hok := h.ok
  have hz1 := hok.z1
  have hz2 := hok.z2
  obtain ⟨w1, hmk, o1, k1, s1⟩ := make_bytes g.z (by omega) w
  obtain ⟨w2, hcp, o2, k2⟩ := copy_text (b := markB) o1 (by simp [markB]; omega)
  have hcp : (Builtin.copy_ #[33, 9] 3 #[.slice (some ⟨w.heap.size, 0, none⟩) g.z g.z, .string { data := #[76, 79, 71, 71, 73, 65, 80, 71] }]).run Tryz.prog w1 = .ok (.int .i64 8) w2 := hcp
  have kk2 : Only (fun i => w.heap.size ≤ i) w w2 := (k1.mono (T := fun i => w.heap.size ≤ i) (fun _ _ h => h.elim)).trans k2 (fun i hi e => by omega)
  have hG := h.lts.2.2
  have hS : ∀ w', Only (fun i => w.heap.size ≤ i) w w' → ∃ gm, BkAt w' G gb gd g ch gm := fun w' k => h.bk.only k (fun i hi hs => by have hs : w.heap.size ≤ i := hs; omega)
  obtain ⟨gm, hb0⟩ := h.bk
  have c3 := hb0.cells.2.2.2.1
  obtain ⟨gm2, hb2⟩ := hS w2 kk2
  obtain ⟨_, _, d2, d3, d4, _⟩ := hb2.cells
  have HS := Lib.hid hS
  have O2 := Lib.hid o2
  have K2 := Lib.hid kk2
  have RI := Lib.hid (root_is g.z g.n g.k l (by omega))
  have C1 := Lib.hid (putnumber_own (i := 8) (v := g.z) o2 (by omega) (by omega))
  clear h hok hS o1 k1 o2 k2 kk2 hb0 hb2 s1 hG
  go_enter Tryz.func70, Tryz.ntmps70
  go_wp2_with fail
  refine C1.out.mono ?_
  rintro e w3 ⟨rfl, o3, k3⟩
  have K3 : Hid (Only (fun i => w.heap.size ≤ i) w w3) := K2.out.trans k3 (fun i hi e => by omega)
  obtain ⟨gm3, hb3⟩ := HS.out w3 K3.out
  obtain ⟨_, _, d2, d3, d4, _⟩ := hb3.cells
  have C2 := Lib.hid (putnumber_own (i := 10) (v := g.n) o3 (by omega) (by omega))
  clear hb3 o3 k3 C1 O2 K2
  go_wp2_with fail
  refine C2.out.mono ?_
  rintro e w4 ⟨rfl, o4, k4⟩
  have K4 : Hid (Only (fun i => w.heap.size ≤ i) w w4) := K3.out.trans k4 (fun i hi e => by omega)
  obtain ⟨gm4, hb4⟩ := HS.out w4 K4.out
  obtain ⟨_, _, d2, d3, d4, _⟩ := hb4.cells
  have C3 := Lib.hid (putnumber_own (i := 12) (v := g.k) o4 (by omega) (by omega))
  clear hb4 o4 k4 C2 K3
  go_wp2_with fail
  refine C3.out.mono ?_
  rintro e w5 ⟨rfl, o5, k5⟩
  have K5 : Hid (Only (fun i => w.heap.size ≤ i) w w5) := K4.out.trans k5 (fun i hi e => by omega)
  have C4 := Lib.hid (putnumber_own (i := 14) (v := l) o5 (by omega) (by omega))
  clear o5 k5 C3 K4
  go_wp2_with fail
  refine C4.out.mono ?_
  rintro e w6 ⟨rfl, o6, k6⟩
  have K6 : Hid (Only (fun i => w.heap.size ≤ i) w w6) := K5.out.trans k6 (fun i hi e => by omega)
  rw [RI.out] at o6
  have O6 := Lib.hid o6
  clear o6 k6 C4 K5
  go_wp2
  go_ret
  exact ⟨rfl, O6.out, K6.out.below (Nat.le_refl _) (fun i hi h => by have h : w.heap.size ≤ i := h; omega)⟩
end

set_option maxHeartbeats 400000 in
theorem equal_any (lo hi lo' hi' : Nat) (v v' : Value) (b d : List UInt8) (w : World) (h1 : SlIs w lo hi v b) (h2 : SlIs w lo' hi' v' d) : Calls Tryz.prog 78 #[v, v'] w fun e w' => e = .returned (.bool (decide (b = d))) ∧ w' = w := by
  have r1 := run_str v b lo hi w h1
  have r2 := run_str v' d lo' hi' w h2
  clear h1 h2
  go_enter Tryz.func78, Tryz.ntmps78
  go_wp2
  go_ret
  exact ⟨by
    refine congrArg (fun x => Ending.returned (.bool x)) ?_
    by_cases h : b = d <;> simp [h, strOf_list], rfl⟩
section
variable (F E G : Nat → Prop) (gd gb : Nat) (s : D) (g : BG) (ch : Nat → Option (List UInt8)) (w : World) (h : St w F E G gd s gb g ch)
include h
/-- Which list holds, of what the disk tells. -/
def BG.lst (g : BG) (ls : List (List UInt8)) : Nat := lstOf (g.sec ls 0)
def BG.rooted (g : BG) (ls : List (List UInt8)) : Bool := decide (g.sec ls 0 = rootB g.z g.n g.k (g.lst ls))
set_option maxHeartbeats 2000000 in
theorem pgholds_any (ho : s.off = false) : Calls Tryz.prog 53 #[.pointer (some ⟨gb, 0, none⟩)] w fun e w' =>
    e = (if g.rooted s.seen = true then .returned (.int .i64 (g.lst s.seen : Int)) else .panicked [{ v := .iface 26 (.int .i64 2), recovered := false }]) ∧ Below w.heap.size w w' := by
  have hok := h.ok
  have hz1 := hok.z1
  have hz2 := hok.z2
  have C1 := Lib.hid (pgread_on F E G gd gb s g ch w h 0 ho (by have := hok.room; omega))
  have HS := Lib.hid (fun w' (k : Below w.heap.size w w') => h.below k)
  have RB : Hid (g.rooted s.seen = decide (g.sec s.seen 0 = rootB g.z g.n g.k (lstOf (g.sec s.seen 0)))) := rfl
  have RL : Hid (g.lst s.seen = lstOf (g.sec s.seen 0)) := rfl
  generalize g.rooted s.seen = rb at RB ⊢
  generalize g.lst s.seen = rl at RL ⊢
  generalize g.sec s.seen 0 = x at C1 RB RL
  clear hok h
  go_enter Tryz.func53, Tryz.ntmps53
  go_wp2_with fail
  refine C1.out.mono ?_
  rintro e w1 ⟨A, c, rfl, hx, q1, q2⟩
  have C2 := Lib.hid (listof_any _ _ _ x w1 (by exact q1) (by omega) (by omega))
  have Q1 := Lib.hid q1
  have Q2 := Lib.hid q2
  have HX := Lib.hid hx
  clear hx q1 q2 C1
  go_wp2_with fail
  refine C2.out.mono ?_
  rintro e w2 ⟨rfl, m, rfl⟩
  rw [← RL.out] at C2
  rw [← RL.out] at RB ⊢
  have Q3 : Hid (Below w.heap.size w (w1.drewN m)) := ⟨Q2.out.os, Q2.out.tape, Q2.out.output, Q2.out.size, Q2.out.block⟩
  have C3 := Lib.hid (pgroot_any F E G gd gb s g ch _ (HS.out _ Q3.out) rl)
  clear C2
  go_wp2_with fail
  refine C3.out.mono ?_
  rintro e w3 ⟨rfl, o3, b3⟩
  have X1 := Q1.out.only (S := fun i => (w1.drewN m).heap.size ≤ i) (((Only.refl _ w1).drewN m).trans (Only.of_below b3) (fun _ _ h => h)) (Nat.le_refl _) (fun i h1 h2 hs => by have hs : w1.heap.size ≤ i := hs; omega)
  have C4 := Lib.hid (equal_any _ _ _ _ _ _ _ _ w3 X1 (owns_SlIs (bs := rootB g.z g.n g.k rl) (by have e : (rootB g.z g.n g.k rl).length = g.z := (by have := o3.1; rw [b8s_length] at this; omega); rw [e]; exact o3)))
  have Q4 := Lib.hid (Q3.out.trans (b3.mono Q3.out.size))
  have RD : Hid (rb = decide (x = rootB g.z g.n g.k rl)) := RB
  clear o3 b3 X1 C3 Q1 RB
  go_wp2_with fail
  refine C4.out.mono ?_
  rintro e w4 ⟨rfl, rfl⟩
  rw [← RD.out]
  clear C4
  cases rb
  · go_wp2_with fail
    refine (must_no 2 _).mono ?_
    rintro e w5 ⟨rfl, rfl⟩
    go_wp2
    exact ⟨rfl, rfl, Q4.out⟩
  · go_wp2_with fail
    refine (must_yes 2 _).mono ?_
    rintro e w5 ⟨rfl, rfl⟩
    go_wp2
    go_ret
    exact ⟨rfl, Q4.out⟩
end
end Go.Proofs.YtnhojcldeloigaaGreat
