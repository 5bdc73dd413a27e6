/-
  Layer 5's Few: is a message such that a play is worth its while?
-/
import Derived.Test.YtepiifbleoimkaaDoorPackMsgC
import Derived.Test.YtepiifbleoimkaaDoorStatI
import Derived.Test.YtepiifbleoimkaaDoorPackMsgD
namespace Go.Proofs.YtepiifbleoimkaaDoor
open Go.RowKit
set_option maxRecDepth 100000

theorem kind_num {f : F} {n : Nat} (h : f.kind = .num n) : ∃ x, f = .num n x := by
  cases f with
  | num k x =>
    have : k = n := by simpa [F.kind] using h
    subst this
    exact ⟨x, rfl⟩
  | _ => cases h
theorem kind_text {f : F} (h : f.kind = .text) : ∃ x, f = .text x := by
  cases f with
  | text x => exact ⟨x, rfl⟩
  | _ => cases h
theorem kind_texts {f : F} (h : f.kind = .texts) : ∃ x, f = .texts x := by
  cases f with
  | texts x => exact ⟨x, rfl⟩
  | _ => cases h
theorem kind_qid {f : F} (h : f.kind = .qid) : ∃ x, f = .qid x := by
  cases f with
  | qid x => exact ⟨x, rfl⟩
  | _ => cases h
theorem kind_qids {f : F} (h : f.kind = .qids) : ∃ x, f = .qids x := by
  cases f with
  | qids x => exact ⟨x, rfl⟩
  | _ => cases h
theorem kind_data {f : F} (h : f.kind = .data) : ∃ x, f = .data x := by
  cases f with
  | data x => exact ⟨x, rfl⟩
  | _ => cases h
theorem kind_stat {f : F} (h : f.kind = .stat) : ∃ x, f = .stat x := by
  cases f with
  | stat x => exact ⟨x, rfl⟩
  | _ => cases h
/-- What Few asks of the lists, the data, the texts, the record. -/
def FewP (L : List (List UInt8)) (Q : List Q3) (b ve un an en na : List UInt8) (s : S11) : Prop :=
  L.length ≤ 30 ∧ Q.length ≤ 30 ∧ (b.length ≤ 500 ∨ 8190 ≤ b.length) ∧ b.length ≤ 9000 ∧ ve.length ≤ 200 ∧ un.length ≤ 200 ∧ an.length ≤ 200 ∧ en.length ≤ 200 ∧ na.length ≤ 200 ∧ s.isFew ∧ ∀ l ∈ L, l.length ≤ 200

/-- The cells that Few looks at. -/
structure FewCells (W : World) (mb : Nat) (L : List (List UInt8)) (Q : List Q3) (b ve un an en na : List UInt8) (s : S11) (A1 A2 A3 : Option Addr) (x1 x2 x3 : Nat) : Prop where
  c11 : W.cell? ⟨mb, 11, none⟩ = some (.slice A1 L.length x1)
  c12 : W.cell? ⟨mb, 12, none⟩ = some (.slice A2 Q.length x2)
  c22 : W.cell? ⟨mb, 22, none⟩ = some (.slice A3 b.length x3)
  c3 : W.cell? ⟨mb, 3, none⟩ = some (.string (strOf ve))
  c7 : W.cell? ⟨mb, 7, none⟩ = some (.string (strOf un))
  c8 : W.cell? ⟨mb, 8, none⟩ = some (.string (strOf an))
  c9 : W.cell? ⟨mb, 9, none⟩ = some (.string (strOf en))
  c19 : W.cell? ⟨mb, 19, none⟩ = some (.string (strOf na))
  s0 : W.cell? ⟨mb, 23, none⟩ = some (.int .u16 (s.k : Int))
  s1 : W.cell? ⟨mb, 24, none⟩ = some (.int .u32 (s.d : Int))
  s2 : W.cell? ⟨mb, 25, none⟩ = some (.int .u8 (s.q.t : Int))
  s3 : W.cell? ⟨mb, 26, none⟩ = some (.int .u32 (s.q.v : Int))
  s4 : W.cell? ⟨mb, 27, none⟩ = some (.int .u64 (s.q.p : Int))
  s5 : W.cell? ⟨mb, 28, none⟩ = some (.int .u32 (s.m : Int))
  s6 : W.cell? ⟨mb, 29, none⟩ = some (.int .u32 (s.a : Int))
  s7 : W.cell? ⟨mb, 30, none⟩ = some (.int .u32 (s.c : Int))
  s8 : W.cell? ⟨mb, 31, none⟩ = some (.int .u64 (s.l : Int))
  s9 : W.cell? ⟨mb, 32, none⟩ = some (.string (strOf s.n))
  s10 : W.cell? ⟨mb, 33, none⟩ = some (.string (strOf s.u))
  s11 : W.cell? ⟨mb, 34, none⟩ = some (.string (strOf s.g))
  s12 : W.cell? ⟨mb, 35, none⟩ = some (.string (strOf s.x))
theorem few_cells {w W : World} {lo hi mb : Nat} {cs : Array Value} {m : Nat → F} {L : List (List UInt8)} {Q : List Q3} {b ve un an en na : List UInt8} {s : S11} (h : MgAt w lo hi cs m) (hm : Has W mb 33 cs) (h11 : m 11 = .texts L) (h12 : m 12 = .qids Q) (h22 : m 22 = .data b) (h3 : m 3 = .text ve) (h7 : m 7 = .text un) (h8 : m 8 = .text an) (h9 : m 9 = .text en) (h19 : m 19 = .text na) (h23 : m 23 = .stat s) :
    ∃ A1 A2 A3 x1 x2 x3, cs[11]? = some (.slice A1 L.length x1) ∧ StrsAt w lo hi (.slice A1 L.length x1) L ∧ FewCells W mb L Q b ve un an en na s A1 A2 A3 x1 x2 x3 := by
  have p11 := h.lies (.texts, 11) (by decide)
  have p12 := h.lies (.qids, 12) (by decide)
  have p22 := h.lies (.data, 22) (by decide)
  have p3 := h.lies (.text, 3) (by decide)
  have p7 := h.lies (.text, 7) (by decide)
  have p8 := h.lies (.text, 8) (by decide)
  have p9 := h.lies (.text, 9) (by decide)
  have p19 := h.lies (.text, 19) (by decide)
  have p23 := h.lies (.stat, 23) (by decide)
  rw [h11] at p11
  rw [h12] at p12
  rw [h22] at p22
  rw [h3] at p3
  rw [h7] at p7
  rw [h8] at p8
  rw [h9] at p9
  rw [h19] at p19
  rw [h23] at p23
  obtain ⟨v1, e1, A1, x1, rfl, r1⟩ := p11
  obtain ⟨v2, e2, A2, x2, rfl, _⟩ := p12
  obtain ⟨v3, e3, A3, x3, rfl, _⟩ := p22
  exact ⟨A1, A2, A3, x1, x2, x3, e1, ⟨A1, x1, rfl, r1⟩, ⟨(hm.cell 11).trans e1, (hm.cell 12).trans e2, (hm.cell 22).trans e3, (hm.cell 3).trans p3, (hm.cell 7).trans p7, (hm.cell 8).trans p8, (hm.cell 9).trans p9, (hm.cell 19).trans p19, (hm.cell 23).trans (p23 0 (by omega)), (hm.cell 24).trans (p23 1 (by omega)), (hm.cell 25).trans (p23 2 (by omega)), (hm.cell 26).trans (p23 3 (by omega)), (hm.cell 27).trans (p23 4 (by omega)), (hm.cell 28).trans (p23 5 (by omega)), (hm.cell 29).trans (p23 6 (by omega)), (hm.cell 30).trans (p23 7 (by omega)), (hm.cell 31).trans (p23 8 (by omega)), (hm.cell 32).trans (p23 9 (by omega)), (hm.cell 33).trans (p23 10 (by omega)), (hm.cell 34).trans (p23 11 (by omega)), (hm.cell 35).trans (p23 12 (by omega))⟩⟩

set_option maxHeartbeats 1000000 in
theorem few5_a (cs : Array Value) (L : List (List UInt8)) (Q : List Q3) (b ve un an en na : List UInt8) (s : S11) (A1 A2 A3 : Option Addr) (x1 x2 x3 : Nat) (w : World) (F0 : FewCells (w.alloc (.cells cs 33)) w.heap.size L Q b ve un an en na s A1 A2 A3 x1 x2 x3) (h : 30 < L.length) :
    Calls Tryd.prog 9 #[.agg cs] w fun e w' => e = .returned (.bool false) ∧ Below w.heap.size w w' := by
  obtain ⟨c11, c12, c22, c3, c7, c8, c9, c19, s0, s1, s2, s3, s4, s5, s6, s7, s8, s9, s10, s11, s12⟩ := F0
  have z_ve : (strOf ve).size = ve.length := strOf_size _
  have z_un : (strOf un).size = un.length := strOf_size _
  have z_an : (strOf an).size = an.length := strOf_size _
  have z_en : (strOf en).size = en.length := strOf_size _
  have z_na : (strOf na).size = na.length := strOf_size _
  have d1 : decide ((30 : Int) < (L.length : Int)) = true := decide_eq_true (by omega)
  clear h

  go_enter Tryd.func9, Tryd.ntmps9
  go_wp2
  go_ret
  exact ⟨rfl, (Below.refl _ _).alloc (Nat.le_refl _) _⟩

set_option maxHeartbeats 1000000 in
theorem few5_b (cs : Array Value) (L : List (List UInt8)) (Q : List Q3) (b ve un an en na : List UInt8) (s : S11) (A1 A2 A3 : Option Addr) (x1 x2 x3 : Nat) (w : World) (F0 : FewCells (w.alloc (.cells cs 33)) w.heap.size L Q b ve un an en na s A1 A2 A3 x1 x2 x3) (h1 : L.length ≤ 30) (h : 30 < Q.length) :
    Calls Tryd.prog 9 #[.agg cs] w fun e w' => e = .returned (.bool false) ∧ Below w.heap.size w w' := by
  obtain ⟨c11, c12, c22, c3, c7, c8, c9, c19, s0, s1, s2, s3, s4, s5, s6, s7, s8, s9, s10, s11, s12⟩ := F0
  have z_ve : (strOf ve).size = ve.length := strOf_size _
  have z_un : (strOf un).size = un.length := strOf_size _
  have z_an : (strOf an).size = an.length := strOf_size _
  have z_en : (strOf en).size = en.length := strOf_size _
  have z_na : (strOf na).size = na.length := strOf_size _
  have d1 : decide ((30 : Int) < (L.length : Int)) = false := decide_eq_false (by omega)
  have d2 : decide ((30 : Int) < (Q.length : Int)) = true := decide_eq_true (by omega)
  clear h h1

  go_enter Tryd.func9, Tryd.ntmps9
  go_wp2
  go_ret
  exact ⟨rfl, (Below.refl _ _).alloc (Nat.le_refl _) _⟩

set_option maxHeartbeats 1000000 in
theorem few5_c (cs : Array Value) (L : List (List UInt8)) (Q : List Q3) (b ve un an en na : List UInt8) (s : S11) (A1 A2 A3 : Option Addr) (x1 x2 x3 : Nat) (w : World) (F0 : FewCells (w.alloc (.cells cs 33)) w.heap.size L Q b ve un an en na s A1 A2 A3 x1 x2 x3) (h1 : L.length ≤ 30) (h2 : Q.length ≤ 30) (h3 : 500 < b.length) (h4 : b.length < 8190) :
    Calls Tryd.prog 9 #[.agg cs] w fun e w' => e = .returned (.bool false) ∧ Below w.heap.size w w' := by
  obtain ⟨c11, c12, c22, c3, c7, c8, c9, c19, s0, s1, s2, s3, s4, s5, s6, s7, s8, s9, s10, s11, s12⟩ := F0
  have z_ve : (strOf ve).size = ve.length := strOf_size _
  have z_un : (strOf un).size = un.length := strOf_size _
  have z_an : (strOf an).size = an.length := strOf_size _
  have z_en : (strOf en).size = en.length := strOf_size _
  have z_na : (strOf na).size = na.length := strOf_size _
  have d1 : decide ((30 : Int) < (L.length : Int)) = false := decide_eq_false (by omega)
  have d2 : decide ((30 : Int) < (Q.length : Int)) = false := decide_eq_false (by omega)
  have d3 : decide ((500 : Int) < (b.length : Int)) = true := decide_eq_true (by omega)
  have d3b : decide ((b.length : Int) < 8190) = true := decide_eq_true (by omega)
  clear h1 h2 h3 h4

  go_enter Tryd.func9, Tryd.ntmps9
  go_wp2
  go_ret
  exact ⟨rfl, (Below.refl _ _).alloc (Nat.le_refl _) _⟩

set_option maxHeartbeats 1000000 in
theorem few5_d (cs : Array Value) (L : List (List UInt8)) (Q : List Q3) (b ve un an en na : List UInt8) (s : S11) (A1 A2 A3 : Option Addr) (x1 x2 x3 : Nat) (w : World) (F0 : FewCells (w.alloc (.cells cs 33)) w.heap.size L Q b ve un an en na s A1 A2 A3 x1 x2 x3) (h1 : L.length ≤ 30) (h2 : Q.length ≤ 30) (h3 : 9000 < b.length) :
    Calls Tryd.prog 9 #[.agg cs] w fun e w' => e = .returned (.bool false) ∧ Below w.heap.size w w' := by
  obtain ⟨c11, c12, c22, c3, c7, c8, c9, c19, s0, s1, s2, s3, s4, s5, s6, s7, s8, s9, s10, s11, s12⟩ := F0
  have z_ve : (strOf ve).size = ve.length := strOf_size _
  have z_un : (strOf un).size = un.length := strOf_size _
  have z_an : (strOf an).size = an.length := strOf_size _
  have z_en : (strOf en).size = en.length := strOf_size _
  have z_na : (strOf na).size = na.length := strOf_size _
  have d1 : decide ((30 : Int) < (L.length : Int)) = false := decide_eq_false (by omega)
  have d2 : decide ((30 : Int) < (Q.length : Int)) = false := decide_eq_false (by omega)
  have d3 : decide ((500 : Int) < (b.length : Int)) = true := decide_eq_true (by omega)
  have d3b : decide ((b.length : Int) < 8190) = false := decide_eq_false (by omega)
  have d4 : decide ((9000 : Int) < (b.length : Int)) = true := decide_eq_true (by omega)
  clear h1 h2 h3

  go_enter Tryd.func9, Tryd.ntmps9
  go_wp2
  go_ret
  exact ⟨rfl, (Below.refl _ _).alloc (Nat.le_refl _) _⟩

set_option maxHeartbeats 1000000 in
theorem few5_x0 (cs : Array Value) (L : List (List UInt8)) (Q : List Q3) (b ve un an en na : List UInt8) (s : S11) (A1 A2 A3 : Option Addr) (x1 x2 x3 : Nat) (w : World) (F0 : FewCells (w.alloc (.cells cs 33)) w.heap.size L Q b ve un an en na s A1 A2 A3 x1 x2 x3) (h1 : L.length ≤ 30) (h2 : Q.length ≤ 30) (h3 : b.length ≤ 500) (t0 : 200 < ve.length) :
    Calls Tryd.prog 9 #[.agg cs] w fun e w' => e = .returned (.bool false) ∧ Below w.heap.size w w' := by
  obtain ⟨c11, c12, c22, c3, c7, c8, c9, c19, s0, s1, s2, s3, s4, s5, s6, s7, s8, s9, s10, s11, s12⟩ := F0
  have z_ve : (strOf ve).size = ve.length := strOf_size _
  have z_un : (strOf un).size = un.length := strOf_size _
  have z_an : (strOf an).size = an.length := strOf_size _
  have z_en : (strOf en).size = en.length := strOf_size _
  have z_na : (strOf na).size = na.length := strOf_size _
  have d1 : decide ((30 : Int) < (L.length : Int)) = false := decide_eq_false (by omega)
  have d2 : decide ((30 : Int) < (Q.length : Int)) = false := decide_eq_false (by omega)
  have d3 : decide ((500 : Int) < (b.length : Int)) = false := decide_eq_false (by omega)
  have d4 : decide ((9000 : Int) < (b.length : Int)) = false := decide_eq_false (by omega)
  have d5 : decide ((200 : Int) < (ve.length : Int)) = true := decide_eq_true (by omega)
  clear h1 h2 h3 t0

  go_enter Tryd.func9, Tryd.ntmps9
  go_wp2
  go_ret
  exact ⟨rfl, (Below.refl _ _).alloc (Nat.le_refl _) _⟩

set_option maxHeartbeats 1000000 in
theorem few5_x1 (cs : Array Value) (L : List (List UInt8)) (Q : List Q3) (b ve un an en na : List UInt8) (s : S11) (A1 A2 A3 : Option Addr) (x1 x2 x3 : Nat) (w : World) (F0 : FewCells (w.alloc (.cells cs 33)) w.heap.size L Q b ve un an en na s A1 A2 A3 x1 x2 x3) (h1 : L.length ≤ 30) (h2 : Q.length ≤ 30) (h3 : b.length ≤ 500) (t0 : ve.length ≤ 200) (t1 : 200 < un.length) :
    Calls Tryd.prog 9 #[.agg cs] w fun e w' => e = .returned (.bool false) ∧ Below w.heap.size w w' := by
  obtain ⟨c11, c12, c22, c3, c7, c8, c9, c19, s0, s1, s2, s3, s4, s5, s6, s7, s8, s9, s10, s11, s12⟩ := F0
  have z_ve : (strOf ve).size = ve.length := strOf_size _
  have z_un : (strOf un).size = un.length := strOf_size _
  have z_an : (strOf an).size = an.length := strOf_size _
  have z_en : (strOf en).size = en.length := strOf_size _
  have z_na : (strOf na).size = na.length := strOf_size _
  have d1 : decide ((30 : Int) < (L.length : Int)) = false := decide_eq_false (by omega)
  have d2 : decide ((30 : Int) < (Q.length : Int)) = false := decide_eq_false (by omega)
  have d3 : decide ((500 : Int) < (b.length : Int)) = false := decide_eq_false (by omega)
  have d4 : decide ((9000 : Int) < (b.length : Int)) = false := decide_eq_false (by omega)
  have d5 : decide ((200 : Int) < (ve.length : Int)) = false := decide_eq_false (by omega)
  have d6 : decide ((200 : Int) < (un.length : Int)) = true := decide_eq_true (by omega)
  clear h1 h2 h3 t0 t1

  go_enter Tryd.func9, Tryd.ntmps9
  go_wp2
  go_ret
  exact ⟨rfl, (Below.refl _ _).alloc (Nat.le_refl _) _⟩

set_option maxHeartbeats 1000000 in
theorem few5_x2 (cs : Array Value) (L : List (List UInt8)) (Q : List Q3) (b ve un an en na : List UInt8) (s : S11) (A1 A2 A3 : Option Addr) (x1 x2 x3 : Nat) (w : World) (F0 : FewCells (w.alloc (.cells cs 33)) w.heap.size L Q b ve un an en na s A1 A2 A3 x1 x2 x3) (h1 : L.length ≤ 30) (h2 : Q.length ≤ 30) (h3 : b.length ≤ 500) (t0 : ve.length ≤ 200) (t1 : un.length ≤ 200) (t2 : 200 < an.length) :
    Calls Tryd.prog 9 #[.agg cs] w fun e w' => e = .returned (.bool false) ∧ Below w.heap.size w w' := by
  obtain ⟨c11, c12, c22, c3, c7, c8, c9, c19, s0, s1, s2, s3, s4, s5, s6, s7, s8, s9, s10, s11, s12⟩ := F0
  have z_ve : (strOf ve).size = ve.length := strOf_size _
  have z_un : (strOf un).size = un.length := strOf_size _
  have z_an : (strOf an).size = an.length := strOf_size _
  have z_en : (strOf en).size = en.length := strOf_size _
  have z_na : (strOf na).size = na.length := strOf_size _
  have d1 : decide ((30 : Int) < (L.length : Int)) = false := decide_eq_false (by omega)
  have d2 : decide ((30 : Int) < (Q.length : Int)) = false := decide_eq_false (by omega)
  have d3 : decide ((500 : Int) < (b.length : Int)) = false := decide_eq_false (by omega)
  have d4 : decide ((9000 : Int) < (b.length : Int)) = false := decide_eq_false (by omega)
  have d5 : decide ((200 : Int) < (ve.length : Int)) = false := decide_eq_false (by omega)
  have d6 : decide ((200 : Int) < (un.length : Int)) = false := decide_eq_false (by omega)
  have d7 : decide ((200 : Int) < (an.length : Int)) = true := decide_eq_true (by omega)
  clear h1 h2 h3 t0 t1 t2

  go_enter Tryd.func9, Tryd.ntmps9
  go_wp2
  go_ret
  exact ⟨rfl, (Below.refl _ _).alloc (Nat.le_refl _) _⟩

set_option maxHeartbeats 1000000 in
theorem few5_x3 (cs : Array Value) (L : List (List UInt8)) (Q : List Q3) (b ve un an en na : List UInt8) (s : S11) (A1 A2 A3 : Option Addr) (x1 x2 x3 : Nat) (w : World) (F0 : FewCells (w.alloc (.cells cs 33)) w.heap.size L Q b ve un an en na s A1 A2 A3 x1 x2 x3) (h1 : L.length ≤ 30) (h2 : Q.length ≤ 30) (h3 : b.length ≤ 500) (t0 : ve.length ≤ 200) (t1 : un.length ≤ 200) (t2 : an.length ≤ 200) (t3 : 200 < en.length) :
    Calls Tryd.prog 9 #[.agg cs] w fun e w' => e = .returned (.bool false) ∧ Below w.heap.size w w' := by
  obtain ⟨c11, c12, c22, c3, c7, c8, c9, c19, s0, s1, s2, s3, s4, s5, s6, s7, s8, s9, s10, s11, s12⟩ := F0
  have z_ve : (strOf ve).size = ve.length := strOf_size _
  have z_un : (strOf un).size = un.length := strOf_size _
  have z_an : (strOf an).size = an.length := strOf_size _
  have z_en : (strOf en).size = en.length := strOf_size _
  have z_na : (strOf na).size = na.length := strOf_size _
  have d1 : decide ((30 : Int) < (L.length : Int)) = false := decide_eq_false (by omega)
  have d2 : decide ((30 : Int) < (Q.length : Int)) = false := decide_eq_false (by omega)
  have d3 : decide ((500 : Int) < (b.length : Int)) = false := decide_eq_false (by omega)
  have d4 : decide ((9000 : Int) < (b.length : Int)) = false := decide_eq_false (by omega)
  have d5 : decide ((200 : Int) < (ve.length : Int)) = false := decide_eq_false (by omega)
  have d6 : decide ((200 : Int) < (un.length : Int)) = false := decide_eq_false (by omega)
  have d7 : decide ((200 : Int) < (an.length : Int)) = false := decide_eq_false (by omega)
  have d8 : decide ((200 : Int) < (en.length : Int)) = true := decide_eq_true (by omega)
  clear h1 h2 h3 t0 t1 t2 t3

  go_enter Tryd.func9, Tryd.ntmps9
  go_wp2
  go_ret
  exact ⟨rfl, (Below.refl _ _).alloc (Nat.le_refl _) _⟩

set_option maxHeartbeats 1000000 in
theorem few5_x4 (cs : Array Value) (L : List (List UInt8)) (Q : List Q3) (b ve un an en na : List UInt8) (s : S11) (A1 A2 A3 : Option Addr) (x1 x2 x3 : Nat) (w : World) (F0 : FewCells (w.alloc (.cells cs 33)) w.heap.size L Q b ve un an en na s A1 A2 A3 x1 x2 x3) (h1 : L.length ≤ 30) (h2 : Q.length ≤ 30) (h3 : b.length ≤ 500) (t0 : ve.length ≤ 200) (t1 : un.length ≤ 200) (t2 : an.length ≤ 200) (t3 : en.length ≤ 200) (t4 : 200 < na.length) :
    Calls Tryd.prog 9 #[.agg cs] w fun e w' => e = .returned (.bool false) ∧ Below w.heap.size w w' := by
  obtain ⟨c11, c12, c22, c3, c7, c8, c9, c19, s0, s1, s2, s3, s4, s5, s6, s7, s8, s9, s10, s11, s12⟩ := F0
  have z_ve : (strOf ve).size = ve.length := strOf_size _
  have z_un : (strOf un).size = un.length := strOf_size _
  have z_an : (strOf an).size = an.length := strOf_size _
  have z_en : (strOf en).size = en.length := strOf_size _
  have z_na : (strOf na).size = na.length := strOf_size _
  have d1 : decide ((30 : Int) < (L.length : Int)) = false := decide_eq_false (by omega)
  have d2 : decide ((30 : Int) < (Q.length : Int)) = false := decide_eq_false (by omega)
  have d3 : decide ((500 : Int) < (b.length : Int)) = false := decide_eq_false (by omega)
  have d4 : decide ((9000 : Int) < (b.length : Int)) = false := decide_eq_false (by omega)
  have d5 : decide ((200 : Int) < (ve.length : Int)) = false := decide_eq_false (by omega)
  have d6 : decide ((200 : Int) < (un.length : Int)) = false := decide_eq_false (by omega)
  have d7 : decide ((200 : Int) < (an.length : Int)) = false := decide_eq_false (by omega)
  have d8 : decide ((200 : Int) < (en.length : Int)) = false := decide_eq_false (by omega)
  have d9 : decide ((200 : Int) < (na.length : Int)) = true := decide_eq_true (by omega)
  clear h1 h2 h3 t0 t1 t2 t3 t4

  go_enter Tryd.func9, Tryd.ntmps9
  go_wp2
  go_ret
  exact ⟨rfl, (Below.refl _ _).alloc (Nat.le_refl _) _⟩

set_option maxHeartbeats 1000000 in
theorem few5_x5 (cs : Array Value) (L : List (List UInt8)) (Q : List Q3) (b ve un an en na : List UInt8) (s : S11) (A1 A2 A3 : Option Addr) (x1 x2 x3 : Nat) (w : World) (F0 : FewCells (w.alloc (.cells cs 33)) w.heap.size L Q b ve un an en na s A1 A2 A3 x1 x2 x3) (h1 : L.length ≤ 30) (h2 : Q.length ≤ 30) (h3 : b.length ≤ 500) (t0 : ve.length ≤ 200) (t1 : un.length ≤ 200) (t2 : an.length ≤ 200) (t3 : en.length ≤ 200) (t4 : na.length ≤ 200) (hs : ¬ s.isFew) :
    Calls Tryd.prog 9 #[.agg cs] w fun e w' => e = .returned (.bool false) ∧ Below w.heap.size w w' := by
  obtain ⟨c11, c12, c22, c3, c7, c8, c9, c19, s0, s1, s2, s3, s4, s5, s6, s7, s8, s9, s10, s11, s12⟩ := F0
  have z_ve : (strOf ve).size = ve.length := strOf_size _
  have z_un : (strOf un).size = un.length := strOf_size _
  have z_an : (strOf an).size = an.length := strOf_size _
  have z_en : (strOf en).size = en.length := strOf_size _
  have z_na : (strOf na).size = na.length := strOf_size _
  have d1 : decide ((30 : Int) < (L.length : Int)) = false := decide_eq_false (by omega)
  have d2 : decide ((30 : Int) < (Q.length : Int)) = false := decide_eq_false (by omega)
  have d3 : decide ((500 : Int) < (b.length : Int)) = false := decide_eq_false (by omega)
  have d4 : decide ((9000 : Int) < (b.length : Int)) = false := decide_eq_false (by omega)
  have d5 : decide ((200 : Int) < (ve.length : Int)) = false := decide_eq_false (by omega)
  have d6 : decide ((200 : Int) < (un.length : Int)) = false := decide_eq_false (by omega)
  have d7 : decide ((200 : Int) < (an.length : Int)) = false := decide_eq_false (by omega)
  have d8 : decide ((200 : Int) < (en.length : Int)) = false := decide_eq_false (by omega)
  have d9 : decide ((200 : Int) < (na.length : Int)) = false := decide_eq_false (by omega)
  have C := few_no s (w.alloc (.cells cs 33)) hs
  unfold S11.val S11.cells at C
  have C' := Lib.hid C
  clear h1 h2 h3 t0 t1 t2 t3 t4 hs C

  go_enter Tryd.func9, Tryd.ntmps9
  go_wp2_with fail
  refine C'.out.mono ?_
  rintro e w1 ⟨rfl, b1⟩
  have R : Hid (Below w.heap.size w w1) := ((Below.refl _ w).alloc (Nat.le_refl _) _).trans (b1.mono (by simp))
  clear C' b1
  go_wp2
  go_ret
  exact ⟨rfl, R.out⟩

set_option maxHeartbeats 2000000 in
theorem few5_x6 (cs : Array Value) (L : List (List UInt8)) (Q : List Q3) (b ve un an en na : List UInt8) (s : S11) (A1 A2 A3 : Option Addr) (x1 x2 x3 : Nat) (w : World) (F0 : FewCells (w.alloc (.cells cs 33)) w.heap.size L Q b ve un an en na s A1 A2 A3 x1 x2 x3) (h1 : L.length ≤ 30) (h2 : Q.length ≤ 30) (h3 : b.length ≤ 500) (t0 : ve.length ≤ 200) (t1 : un.length ≤ 200) (t2 : an.length ≤ 200) (t3 : en.length ≤ 200) (t4 : na.length ≤ 200) (hs : s.isFew) (hst : StrsAt (w.alloc (.cells cs 33)) 0 w.heap.size (.slice A1 L.length x1) L) :
    Calls Tryd.prog 9 #[.agg cs] w (Tells w (∀ l ∈ L, l.length ≤ 200)) := by
  obtain ⟨c11, c12, c22, c3, c7, c8, c9, c19, s0, s1, s2, s3, s4, s5, s6, s7, s8, s9, s10, s11, s12⟩ := F0
  have hc11 := c11
  have z_ve : (strOf ve).size = ve.length := strOf_size _
  have z_un : (strOf un).size = un.length := strOf_size _
  have z_an : (strOf an).size = an.length := strOf_size _
  have z_en : (strOf en).size = en.length := strOf_size _
  have z_na : (strOf na).size = na.length := strOf_size _
  have d1 : decide ((30 : Int) < (L.length : Int)) = false := decide_eq_false (by omega)
  have d2 : decide ((30 : Int) < (Q.length : Int)) = false := decide_eq_false (by omega)
  have d3 : decide ((500 : Int) < (b.length : Int)) = false := decide_eq_false (by omega)
  have d4 : decide ((9000 : Int) < (b.length : Int)) = false := decide_eq_false (by omega)
  have d5 : decide ((200 : Int) < (ve.length : Int)) = false := decide_eq_false (by omega)
  have d6 : decide ((200 : Int) < (un.length : Int)) = false := decide_eq_false (by omega)
  have d7 : decide ((200 : Int) < (an.length : Int)) = false := decide_eq_false (by omega)
  have d8 : decide ((200 : Int) < (en.length : Int)) = false := decide_eq_false (by omega)
  have d9 : decide ((200 : Int) < (na.length : Int)) = false := decide_eq_false (by omega)
  have C := few_yes s (w.alloc (.cells cs 33)) hs
  unfold S11.val S11.cells at C
  have C' := Lib.hid C
  have HC := Lib.hid hc11
  have HST := Lib.hid hst
  clear h2 h3 t0 t1 t2 t3 t4 hs C hst hc11
  go_enter Tryd.func9, Tryd.ntmps9
  go_wp2_with fail
  refine C'.out.mono ?_
  rintro e w1 ⟨rfl, b1⟩
  clear c11 c12 c22 c3 c7 c8 c9 c19 s0 s1 s2 s3 s4 s5 s6 s7 s8 s9 s10 s11 s12
  have k1 : Only (fun _ => False) (w.alloc (.cells cs 33)) w1 := Below.onlyNew b1
  have I0 : Hid ((∀ k (hk : k < L.length), k < 0 → (L[k]).length ≤ 200) ∧ Only (fun _ => False) (w.alloc (.cells cs 33)) w1) := ⟨fun k _ h => absurd h (by omega), k1⟩
  clear C' b1 k1
  go_wp2_with fail
  go_loopw [3] (fun i wr => ∃ j : Nat, j ≤ L.length ∧ i = .int .i64 j ∧ Hid ((∀ k (hk : k < L.length), k < j → (L[k]).length ≤ 200) ∧ Only (fun _ => False) (w.alloc (.cells cs 33)) wr)) (fun i _ => L.length - (intOf i).toNat)
  case atStart => exact ⟨0, Nat.zero_le _, rfl, I0⟩
  case round =>
    obtain ⟨j, hj, rfl, hrel⟩ := hrel
    clear I0
    have hmbl : w.heap.size < (w.alloc (.cells cs 33)).heap.size := by simp
    have c11 : wr.cell? ⟨w.heap.size, 11, none⟩ = some (.slice A1 L.length x1) := (hrel.out.2.cell (p := ⟨w.heap.size, 11, none⟩) hmbl (fun h => h)).trans HC.out
    by_cases hlt : j < L.length
    · obtain ⟨A', c', hAe, _, _, hcs⟩ := HST.out
      injection hAe with hA hn hc
      subst hA hc
      obtain ⟨ad, rfl, hb1, hb2, hcl⟩ := hcs (by omega)
      have hcell : wr.cell? (ad.add j) = _ := (hrel.out.2.cell (p := ad.add j) (by rw [addr_block]; omega) (fun h => h)).trans (hcl j hlt)
      have i0 : (0 : Int) ≤ (j : Int) := by omega
      have i1 : (j : Int) < (L.length : Int) := by omega
      have hz : (strOf L[j]).size = (L[j]).length := strOf_size _
      by_cases hl : (L[j]).length ≤ 200
      · have R : Hid ((∀ k (hk : k < L.length), k < j + 1 → (L[k]).length ≤ 200) ∧ Only (fun _ => False) (w.alloc (.cells cs 33)) wr) := by
          refine ⟨fun k hk hkj => ?_, hrel.out.2⟩
          by_cases hkj' : k < j
          · exact hrel.out.1 k hk hkj'
          · obtain rfl : k = j := by omega
            exact hl
        have d0 : decide ((200 : Int) < ((L[j]).length : Int)) = false := decide_eq_false (by omega)
        generalize L[j] = t at hcell hz d0
        clear hrel hcs hcl hl hb1 hb2
        go_wp2
        go_roundw
        case rel => exact ⟨j + 1, by omega, by go_num, R⟩
        case measure => simp [intOf]; omega
      · have R : Hid (Tells w (∀ l ∈ L, l.length ≤ 200) (.returned (.bool false)) wr) := by
          refine ⟨⟨false, rfl, ?_⟩, ((((Only.refl (fun _ => False) w).alloc _).trans hrel.out.2 (fun _ _ h => h)).below (Nat.le_refl _) (fun _ _ h => h))⟩
          simp only [Bool.false_eq_true, false_iff]
          exact fun h => hl (h _ (List.getElem_mem hlt))
        have d0 : decide ((200 : Int) < ((L[j]).length : Int)) = true := decide_eq_true (by omega)
        generalize L[j] = t at hcell hz d0
        clear hrel hcs hcl hl hb1 hb2
        go_wp2
        go_ret
        exact R.out
    · have R : Hid (Tells w (∀ l ∈ L, l.length ≤ 200) (.returned (.bool true)) wr) := by
        refine ⟨⟨true, rfl, ?_⟩, ((((Only.refl (fun _ => False) w).alloc _).trans hrel.out.2 (fun _ _ h => h)).below (Nat.le_refl _) (fun _ _ h => h))⟩
        simp only [true_iff]
        intro l hl
        obtain ⟨k, hk, rfl⟩ := List.getElem_of_mem hl
        exact hrel.out.1 k hk (by omega)
      have i1 : ¬ (j : Int) < (L.length : Int) := by omega
      clear hrel
      go_wp2
      go_ret
      exact R.out

set_option maxHeartbeats 1000000 in
theorem few5_y0 (cs : Array Value) (L : List (List UInt8)) (Q : List Q3) (b ve un an en na : List UInt8) (s : S11) (A1 A2 A3 : Option Addr) (x1 x2 x3 : Nat) (w : World) (F0 : FewCells (w.alloc (.cells cs 33)) w.heap.size L Q b ve un an en na s A1 A2 A3 x1 x2 x3) (h1 : L.length ≤ 30) (h2 : Q.length ≤ 30) (h3 : 8190 ≤ b.length) (h4 : b.length ≤ 9000) (t0 : 200 < ve.length) :
    Calls Tryd.prog 9 #[.agg cs] w fun e w' => e = .returned (.bool false) ∧ Below w.heap.size w w' := by
  obtain ⟨c11, c12, c22, c3, c7, c8, c9, c19, s0, s1, s2, s3, s4, s5, s6, s7, s8, s9, s10, s11, s12⟩ := F0
  have z_ve : (strOf ve).size = ve.length := strOf_size _
  have z_un : (strOf un).size = un.length := strOf_size _
  have z_an : (strOf an).size = an.length := strOf_size _
  have z_en : (strOf en).size = en.length := strOf_size _
  have z_na : (strOf na).size = na.length := strOf_size _
  have d1 : decide ((30 : Int) < (L.length : Int)) = false := decide_eq_false (by omega)
  have d2 : decide ((30 : Int) < (Q.length : Int)) = false := decide_eq_false (by omega)
  have d3 : decide ((500 : Int) < (b.length : Int)) = true := decide_eq_true (by omega)
  have d3b : decide ((b.length : Int) < 8190) = false := decide_eq_false (by omega)
  have d4 : decide ((9000 : Int) < (b.length : Int)) = false := decide_eq_false (by omega)
  have d5 : decide ((200 : Int) < (ve.length : Int)) = true := decide_eq_true (by omega)
  clear h1 h2 h3 h4 t0

  go_enter Tryd.func9, Tryd.ntmps9
  go_wp2
  go_ret
  exact ⟨rfl, (Below.refl _ _).alloc (Nat.le_refl _) _⟩

set_option maxHeartbeats 1000000 in
theorem few5_y1 (cs : Array Value) (L : List (List UInt8)) (Q : List Q3) (b ve un an en na : List UInt8) (s : S11) (A1 A2 A3 : Option Addr) (x1 x2 x3 : Nat) (w : World) (F0 : FewCells (w.alloc (.cells cs 33)) w.heap.size L Q b ve un an en na s A1 A2 A3 x1 x2 x3) (h1 : L.length ≤ 30) (h2 : Q.length ≤ 30) (h3 : 8190 ≤ b.length) (h4 : b.length ≤ 9000) (t0 : ve.length ≤ 200) (t1 : 200 < un.length) :
    Calls Tryd.prog 9 #[.agg cs] w fun e w' => e = .returned (.bool false) ∧ Below w.heap.size w w' := by
  obtain ⟨c11, c12, c22, c3, c7, c8, c9, c19, s0, s1, s2, s3, s4, s5, s6, s7, s8, s9, s10, s11, s12⟩ := F0
  have z_ve : (strOf ve).size = ve.length := strOf_size _
  have z_un : (strOf un).size = un.length := strOf_size _
  have z_an : (strOf an).size = an.length := strOf_size _
  have z_en : (strOf en).size = en.length := strOf_size _
  have z_na : (strOf na).size = na.length := strOf_size _
  have d1 : decide ((30 : Int) < (L.length : Int)) = false := decide_eq_false (by omega)
  have d2 : decide ((30 : Int) < (Q.length : Int)) = false := decide_eq_false (by omega)
  have d3 : decide ((500 : Int) < (b.length : Int)) = true := decide_eq_true (by omega)
  have d3b : decide ((b.length : Int) < 8190) = false := decide_eq_false (by omega)
  have d4 : decide ((9000 : Int) < (b.length : Int)) = false := decide_eq_false (by omega)
  have d5 : decide ((200 : Int) < (ve.length : Int)) = false := decide_eq_false (by omega)
  have d6 : decide ((200 : Int) < (un.length : Int)) = true := decide_eq_true (by omega)
  clear h1 h2 h3 h4 t0 t1

  go_enter Tryd.func9, Tryd.ntmps9
  go_wp2
  go_ret
  exact ⟨rfl, (Below.refl _ _).alloc (Nat.le_refl _) _⟩

set_option maxHeartbeats 1000000 in
theorem few5_y2 (cs : Array Value) (L : List (List UInt8)) (Q : List Q3) (b ve un an en na : List UInt8) (s : S11) (A1 A2 A3 : Option Addr) (x1 x2 x3 : Nat) (w : World) (F0 : FewCells (w.alloc (.cells cs 33)) w.heap.size L Q b ve un an en na s A1 A2 A3 x1 x2 x3) (h1 : L.length ≤ 30) (h2 : Q.length ≤ 30) (h3 : 8190 ≤ b.length) (h4 : b.length ≤ 9000) (t0 : ve.length ≤ 200) (t1 : un.length ≤ 200) (t2 : 200 < an.length) :
    Calls Tryd.prog 9 #[.agg cs] w fun e w' => e = .returned (.bool false) ∧ Below w.heap.size w w' := by
  obtain ⟨c11, c12, c22, c3, c7, c8, c9, c19, s0, s1, s2, s3, s4, s5, s6, s7, s8, s9, s10, s11, s12⟩ := F0
  have z_ve : (strOf ve).size = ve.length := strOf_size _
  have z_un : (strOf un).size = un.length := strOf_size _
  have z_an : (strOf an).size = an.length := strOf_size _
  have z_en : (strOf en).size = en.length := strOf_size _
  have z_na : (strOf na).size = na.length := strOf_size _
  have d1 : decide ((30 : Int) < (L.length : Int)) = false := decide_eq_false (by omega)
  have d2 : decide ((30 : Int) < (Q.length : Int)) = false := decide_eq_false (by omega)
  have d3 : decide ((500 : Int) < (b.length : Int)) = true := decide_eq_true (by omega)
  have d3b : decide ((b.length : Int) < 8190) = false := decide_eq_false (by omega)
  have d4 : decide ((9000 : Int) < (b.length : Int)) = false := decide_eq_false (by omega)
  have d5 : decide ((200 : Int) < (ve.length : Int)) = false := decide_eq_false (by omega)
  have d6 : decide ((200 : Int) < (un.length : Int)) = false := decide_eq_false (by omega)
  have d7 : decide ((200 : Int) < (an.length : Int)) = true := decide_eq_true (by omega)
  clear h1 h2 h3 h4 t0 t1 t2

  go_enter Tryd.func9, Tryd.ntmps9
  go_wp2
  go_ret
  exact ⟨rfl, (Below.refl _ _).alloc (Nat.le_refl _) _⟩

set_option maxHeartbeats 1000000 in
theorem few5_y3 (cs : Array Value) (L : List (List UInt8)) (Q : List Q3) (b ve un an en na : List UInt8) (s : S11) (A1 A2 A3 : Option Addr) (x1 x2 x3 : Nat) (w : World) (F0 : FewCells (w.alloc (.cells cs 33)) w.heap.size L Q b ve un an en na s A1 A2 A3 x1 x2 x3) (h1 : L.length ≤ 30) (h2 : Q.length ≤ 30) (h3 : 8190 ≤ b.length) (h4 : b.length ≤ 9000) (t0 : ve.length ≤ 200) (t1 : un.length ≤ 200) (t2 : an.length ≤ 200) (t3 : 200 < en.length) :
    Calls Tryd.prog 9 #[.agg cs] w fun e w' => e = .returned (.bool false) ∧ Below w.heap.size w w' := by
  obtain ⟨c11, c12, c22, c3, c7, c8, c9, c19, s0, s1, s2, s3, s4, s5, s6, s7, s8, s9, s10, s11, s12⟩ := F0
  have z_ve : (strOf ve).size = ve.length := strOf_size _
  have z_un : (strOf un).size = un.length := strOf_size _
  have z_an : (strOf an).size = an.length := strOf_size _
  have z_en : (strOf en).size = en.length := strOf_size _
  have z_na : (strOf na).size = na.length := strOf_size _
  have d1 : decide ((30 : Int) < (L.length : Int)) = false := decide_eq_false (by omega)
  have d2 : decide ((30 : Int) < (Q.length : Int)) = false := decide_eq_false (by omega)
  have d3 : decide ((500 : Int) < (b.length : Int)) = true := decide_eq_true (by omega)
  have d3b : decide ((b.length : Int) < 8190) = false := decide_eq_false (by omega)
  have d4 : decide ((9000 : Int) < (b.length : Int)) = false := decide_eq_false (by omega)
  have d5 : decide ((200 : Int) < (ve.length : Int)) = false := decide_eq_false (by omega)
  have d6 : decide ((200 : Int) < (un.length : Int)) = false := decide_eq_false (by omega)
  have d7 : decide ((200 : Int) < (an.length : Int)) = false := decide_eq_false (by omega)
  have d8 : decide ((200 : Int) < (en.length : Int)) = true := decide_eq_true (by omega)
  clear h1 h2 h3 h4 t0 t1 t2 t3

  go_enter Tryd.func9, Tryd.ntmps9
  go_wp2
  go_ret
  exact ⟨rfl, (Below.refl _ _).alloc (Nat.le_refl _) _⟩

set_option maxHeartbeats 1000000 in
theorem few5_y4 (cs : Array Value) (L : List (List UInt8)) (Q : List Q3) (b ve un an en na : List UInt8) (s : S11) (A1 A2 A3 : Option Addr) (x1 x2 x3 : Nat) (w : World) (F0 : FewCells (w.alloc (.cells cs 33)) w.heap.size L Q b ve un an en na s A1 A2 A3 x1 x2 x3) (h1 : L.length ≤ 30) (h2 : Q.length ≤ 30) (h3 : 8190 ≤ b.length) (h4 : b.length ≤ 9000) (t0 : ve.length ≤ 200) (t1 : un.length ≤ 200) (t2 : an.length ≤ 200) (t3 : en.length ≤ 200) (t4 : 200 < na.length) :
    Calls Tryd.prog 9 #[.agg cs] w fun e w' => e = .returned (.bool false) ∧ Below w.heap.size w w' := by
  obtain ⟨c11, c12, c22, c3, c7, c8, c9, c19, s0, s1, s2, s3, s4, s5, s6, s7, s8, s9, s10, s11, s12⟩ := F0
  have z_ve : (strOf ve).size = ve.length := strOf_size _
  have z_un : (strOf un).size = un.length := strOf_size _
  have z_an : (strOf an).size = an.length := strOf_size _
  have z_en : (strOf en).size = en.length := strOf_size _
  have z_na : (strOf na).size = na.length := strOf_size _
  have d1 : decide ((30 : Int) < (L.length : Int)) = false := decide_eq_false (by omega)
  have d2 : decide ((30 : Int) < (Q.length : Int)) = false := decide_eq_false (by omega)
  have d3 : decide ((500 : Int) < (b.length : Int)) = true := decide_eq_true (by omega)
  have d3b : decide ((b.length : Int) < 8190) = false := decide_eq_false (by omega)
  have d4 : decide ((9000 : Int) < (b.length : Int)) = false := decide_eq_false (by omega)
  have d5 : decide ((200 : Int) < (ve.length : Int)) = false := decide_eq_false (by omega)
  have d6 : decide ((200 : Int) < (un.length : Int)) = false := decide_eq_false (by omega)
  have d7 : decide ((200 : Int) < (an.length : Int)) = false := decide_eq_false (by omega)
  have d8 : decide ((200 : Int) < (en.length : Int)) = false := decide_eq_false (by omega)
  have d9 : decide ((200 : Int) < (na.length : Int)) = true := decide_eq_true (by omega)
  clear h1 h2 h3 h4 t0 t1 t2 t3 t4

  go_enter Tryd.func9, Tryd.ntmps9
  go_wp2
  go_ret
  exact ⟨rfl, (Below.refl _ _).alloc (Nat.le_refl _) _⟩

set_option maxHeartbeats 1000000 in
theorem few5_y5 (cs : Array Value) (L : List (List UInt8)) (Q : List Q3) (b ve un an en na : List UInt8) (s : S11) (A1 A2 A3 : Option Addr) (x1 x2 x3 : Nat) (w : World) (F0 : FewCells (w.alloc (.cells cs 33)) w.heap.size L Q b ve un an en na s A1 A2 A3 x1 x2 x3) (h1 : L.length ≤ 30) (h2 : Q.length ≤ 30) (h3 : 8190 ≤ b.length) (h4 : b.length ≤ 9000) (t0 : ve.length ≤ 200) (t1 : un.length ≤ 200) (t2 : an.length ≤ 200) (t3 : en.length ≤ 200) (t4 : na.length ≤ 200) (hs : ¬ s.isFew) :
    Calls Tryd.prog 9 #[.agg cs] w fun e w' => e = .returned (.bool false) ∧ Below w.heap.size w w' := by
  obtain ⟨c11, c12, c22, c3, c7, c8, c9, c19, s0, s1, s2, s3, s4, s5, s6, s7, s8, s9, s10, s11, s12⟩ := F0
  have z_ve : (strOf ve).size = ve.length := strOf_size _
  have z_un : (strOf un).size = un.length := strOf_size _
  have z_an : (strOf an).size = an.length := strOf_size _
  have z_en : (strOf en).size = en.length := strOf_size _
  have z_na : (strOf na).size = na.length := strOf_size _
  have d1 : decide ((30 : Int) < (L.length : Int)) = false := decide_eq_false (by omega)
  have d2 : decide ((30 : Int) < (Q.length : Int)) = false := decide_eq_false (by omega)
  have d3 : decide ((500 : Int) < (b.length : Int)) = true := decide_eq_true (by omega)
  have d3b : decide ((b.length : Int) < 8190) = false := decide_eq_false (by omega)
  have d4 : decide ((9000 : Int) < (b.length : Int)) = false := decide_eq_false (by omega)
  have d5 : decide ((200 : Int) < (ve.length : Int)) = false := decide_eq_false (by omega)
  have d6 : decide ((200 : Int) < (un.length : Int)) = false := decide_eq_false (by omega)
  have d7 : decide ((200 : Int) < (an.length : Int)) = false := decide_eq_false (by omega)
  have d8 : decide ((200 : Int) < (en.length : Int)) = false := decide_eq_false (by omega)
  have d9 : decide ((200 : Int) < (na.length : Int)) = false := decide_eq_false (by omega)
  have C := few_no s (w.alloc (.cells cs 33)) hs
  unfold S11.val S11.cells at C
  have C' := Lib.hid C
  clear h1 h2 h3 h4 t0 t1 t2 t3 t4 hs C

  go_enter Tryd.func9, Tryd.ntmps9
  go_wp2_with fail
  refine C'.out.mono ?_
  rintro e w1 ⟨rfl, b1⟩
  have R : Hid (Below w.heap.size w w1) := ((Below.refl _ w).alloc (Nat.le_refl _) _).trans (b1.mono (by simp))
  clear C' b1
  go_wp2
  go_ret
  exact ⟨rfl, R.out⟩

set_option maxHeartbeats 2000000 in
theorem few5_y6 (cs : Array Value) (L : List (List UInt8)) (Q : List Q3) (b ve un an en na : List UInt8) (s : S11) (A1 A2 A3 : Option Addr) (x1 x2 x3 : Nat) (w : World) (F0 : FewCells (w.alloc (.cells cs 33)) w.heap.size L Q b ve un an en na s A1 A2 A3 x1 x2 x3) (h1 : L.length ≤ 30) (h2 : Q.length ≤ 30) (h3 : 8190 ≤ b.length) (h4 : b.length ≤ 9000) (t0 : ve.length ≤ 200) (t1 : un.length ≤ 200) (t2 : an.length ≤ 200) (t3 : en.length ≤ 200) (t4 : na.length ≤ 200) (hs : s.isFew) (hst : StrsAt (w.alloc (.cells cs 33)) 0 w.heap.size (.slice A1 L.length x1) L) :
    Calls Tryd.prog 9 #[.agg cs] w (Tells w (∀ l ∈ L, l.length ≤ 200)) := by
  obtain ⟨c11, c12, c22, c3, c7, c8, c9, c19, s0, s1, s2, s3, s4, s5, s6, s7, s8, s9, s10, s11, s12⟩ := F0
  have hc11 := c11
  have z_ve : (strOf ve).size = ve.length := strOf_size _
  have z_un : (strOf un).size = un.length := strOf_size _
  have z_an : (strOf an).size = an.length := strOf_size _
  have z_en : (strOf en).size = en.length := strOf_size _
  have z_na : (strOf na).size = na.length := strOf_size _
  have d1 : decide ((30 : Int) < (L.length : Int)) = false := decide_eq_false (by omega)
  have d2 : decide ((30 : Int) < (Q.length : Int)) = false := decide_eq_false (by omega)
  have d3 : decide ((500 : Int) < (b.length : Int)) = true := decide_eq_true (by omega)
  have d3b : decide ((b.length : Int) < 8190) = false := decide_eq_false (by omega)
  have d4 : decide ((9000 : Int) < (b.length : Int)) = false := decide_eq_false (by omega)
  have d5 : decide ((200 : Int) < (ve.length : Int)) = false := decide_eq_false (by omega)
  have d6 : decide ((200 : Int) < (un.length : Int)) = false := decide_eq_false (by omega)
  have d7 : decide ((200 : Int) < (an.length : Int)) = false := decide_eq_false (by omega)
  have d8 : decide ((200 : Int) < (en.length : Int)) = false := decide_eq_false (by omega)
  have d9 : decide ((200 : Int) < (na.length : Int)) = false := decide_eq_false (by omega)
  have C := few_yes s (w.alloc (.cells cs 33)) hs
  unfold S11.val S11.cells at C
  have C' := Lib.hid C
  have HC := Lib.hid hc11
  have HST := Lib.hid hst
  clear h2 h3 h4 t0 t1 t2 t3 t4 hs C hst hc11
  go_enter Tryd.func9, Tryd.ntmps9
  go_wp2_with fail
  refine C'.out.mono ?_
  rintro e w1 ⟨rfl, b1⟩
  clear c11 c12 c22 c3 c7 c8 c9 c19 s0 s1 s2 s3 s4 s5 s6 s7 s8 s9 s10 s11 s12
  have k1 : Only (fun _ => False) (w.alloc (.cells cs 33)) w1 := Below.onlyNew b1
  have I0 : Hid ((∀ k (hk : k < L.length), k < 0 → (L[k]).length ≤ 200) ∧ Only (fun _ => False) (w.alloc (.cells cs 33)) w1) := ⟨fun k _ h => absurd h (by omega), k1⟩
  clear C' b1 k1
  go_wp2_with fail
  go_loopw [3] (fun i wr => ∃ j : Nat, j ≤ L.length ∧ i = .int .i64 j ∧ Hid ((∀ k (hk : k < L.length), k < j → (L[k]).length ≤ 200) ∧ Only (fun _ => False) (w.alloc (.cells cs 33)) wr)) (fun i _ => L.length - (intOf i).toNat)
  case atStart => exact ⟨0, Nat.zero_le _, rfl, I0⟩
  case round =>
    obtain ⟨j, hj, rfl, hrel⟩ := hrel
    clear I0
    have hmbl : w.heap.size < (w.alloc (.cells cs 33)).heap.size := by simp
    have c11 : wr.cell? ⟨w.heap.size, 11, none⟩ = some (.slice A1 L.length x1) := (hrel.out.2.cell (p := ⟨w.heap.size, 11, none⟩) hmbl (fun h => h)).trans HC.out
    by_cases hlt : j < L.length
    · obtain ⟨A', c', hAe, _, _, hcs⟩ := HST.out
      injection hAe with hA hn hc
      subst hA hc
      obtain ⟨ad, rfl, hb1, hb2, hcl⟩ := hcs (by omega)
      have hcell : wr.cell? (ad.add j) = _ := (hrel.out.2.cell (p := ad.add j) (by rw [addr_block]; omega) (fun h => h)).trans (hcl j hlt)
      have i0 : (0 : Int) ≤ (j : Int) := by omega
      have i1 : (j : Int) < (L.length : Int) := by omega
      have hz : (strOf L[j]).size = (L[j]).length := strOf_size _
      by_cases hl : (L[j]).length ≤ 200
      · have R : Hid ((∀ k (hk : k < L.length), k < j + 1 → (L[k]).length ≤ 200) ∧ Only (fun _ => False) (w.alloc (.cells cs 33)) wr) := by
          refine ⟨fun k hk hkj => ?_, hrel.out.2⟩
          by_cases hkj' : k < j
          · exact hrel.out.1 k hk hkj'
          · obtain rfl : k = j := by omega
            exact hl
        have d0 : decide ((200 : Int) < ((L[j]).length : Int)) = false := decide_eq_false (by omega)
        generalize L[j] = t at hcell hz d0
        clear hrel hcs hcl hl hb1 hb2
        go_wp2
        go_roundw
        case rel => exact ⟨j + 1, by omega, by go_num, R⟩
        case measure => simp [intOf]; omega
      · have R : Hid (Tells w (∀ l ∈ L, l.length ≤ 200) (.returned (.bool false)) wr) := by
          refine ⟨⟨false, rfl, ?_⟩, ((((Only.refl (fun _ => False) w).alloc _).trans hrel.out.2 (fun _ _ h => h)).below (Nat.le_refl _) (fun _ _ h => h))⟩
          simp only [Bool.false_eq_true, false_iff]
          exact fun h => hl (h _ (List.getElem_mem hlt))
        have d0 : decide ((200 : Int) < ((L[j]).length : Int)) = true := decide_eq_true (by omega)
        generalize L[j] = t at hcell hz d0
        clear hrel hcs hcl hl hb1 hb2
        go_wp2
        go_ret
        exact R.out
    · have R : Hid (Tells w (∀ l ∈ L, l.length ≤ 200) (.returned (.bool true)) wr) := by
        refine ⟨⟨true, rfl, ?_⟩, ((((Only.refl (fun _ => False) w).alloc _).trans hrel.out.2 (fun _ _ h => h)).below (Nat.le_refl _) (fun _ _ h => h))⟩
        simp only [true_iff]
        intro l hl
        obtain ⟨k, hk, rfl⟩ := List.getElem_of_mem hl
        exact hrel.out.1 k hk (by omega)
      have i1 : ¬ (j : Int) < (L.length : Int) := by omega
      clear hrel
      go_wp2
      go_ret
      exact R.out

theorem few5_any (lo hi : Nat) (cs : Array Value) (m : Nat → F) (L : List (List UInt8)) (Q : List Q3) (b ve un an en na : List UInt8) (s : S11) (w : World) (h : MgAt w lo hi cs m) (hhi : hi ≤ w.heap.size) (h11 : m 11 = .texts L) (h12 : m 12 = .qids Q) (h22 : m 22 = .data b) (h3 : m 3 = .text ve) (h7 : m 7 = .text un) (h8 : m 8 = .text an) (h9 : m 9 = .text en) (h19 : m 19 = .text na) (h23 : m 23 = .stat s) :
    Calls Tryd.prog 9 #[.agg cs] w (Tells w (FewP L Q b ve un an en na s)) := by
  obtain ⟨A1, A2, A3, x1, x2, x3, _, hst0, F0⟩ := few_cells h (Has.new w 33 cs) h11 h12 h22 h3 h7 h8 h9 h19 h23
  have hst : StrsAt (w.alloc (.cells cs 33)) 0 w.heap.size (.slice A1 L.length x1) L := (hst0.keep (((Only.refl (fun _ => False) w).alloc _).keeps hhi (fun _ _ _ h => h))).wide (Nat.zero_le _) hhi
  have no : ∀ {P : Prop}, Calls Tryd.prog 9 #[.agg cs] w (fun e w' => e = .returned (.bool false) ∧ Below w.heap.size w w') → (P → False) → Calls Tryd.prog 9 #[.agg cs] w (Tells w P) :=
    fun c hp => c.mono fun e w' ⟨he, k⟩ => ⟨⟨false, he, by simpa using hp⟩, k⟩
  by_cases h1 : L.length ≤ 30
  rotate_left
  · exact no (few5_a cs L Q b ve un an en na s _ _ _ _ _ _ w F0 (by omega)) (fun h => h1 h.1)
  by_cases h2 : Q.length ≤ 30
  rotate_left
  · exact no (few5_b cs L Q b ve un an en na s _ _ _ _ _ _ w F0 h1 (by omega)) (fun h => h2 h.2.1)
  by_cases h3 : b.length ≤ 500
  · clear h hst0
    by_cases t0 : ve.length ≤ 200
    rotate_left
    · exact no (few5_x0 cs L Q b ve un an en na s _ _ _ _ _ _ w F0 h1 h2 h3  (by omega)) (fun h => by have := h.2.2.2.2.1; omega)
    by_cases t1 : un.length ≤ 200
    rotate_left
    · exact no (few5_x1 cs L Q b ve un an en na s _ _ _ _ _ _ w F0 h1 h2 h3 t0 (by omega)) (fun h => by have := h.2.2.2.2.2.1; omega)
    by_cases t2 : an.length ≤ 200
    rotate_left
    · exact no (few5_x2 cs L Q b ve un an en na s _ _ _ _ _ _ w F0 h1 h2 h3 t0 t1 (by omega)) (fun h => by have := h.2.2.2.2.2.2.1; omega)
    by_cases t3 : en.length ≤ 200
    rotate_left
    · exact no (few5_x3 cs L Q b ve un an en na s _ _ _ _ _ _ w F0 h1 h2 h3 t0 t1 t2 (by omega)) (fun h => by have := h.2.2.2.2.2.2.2.1; omega)
    by_cases t4 : na.length ≤ 200
    rotate_left
    · exact no (few5_x4 cs L Q b ve un an en na s _ _ _ _ _ _ w F0 h1 h2 h3 t0 t1 t2 t3 (by omega)) (fun h => by have := h.2.2.2.2.2.2.2.2.1; omega)
    by_cases hs : s.isFew
    · exact (few5_x6 cs L Q b ve un an en na s _ _ _ _ _ _ w F0 h1 h2 h3 t0 t1 t2 t3 t4 hs hst).mono fun e w' st => st.of ⟨fun h => ⟨h1, h2, by omega, by omega, t0, t1, t2, t3, t4, hs, h⟩, fun h => h.2.2.2.2.2.2.2.2.2.2⟩
    · exact no (few5_x5 cs L Q b ve un an en na s _ _ _ _ _ _ w F0 h1 h2 h3 t0 t1 t2 t3 t4 hs) (fun h => hs h.2.2.2.2.2.2.2.2.2.1)
  · by_cases h4 : b.length < 8190
    · exact no (few5_c cs L Q b ve un an en na s _ _ _ _ _ _ w F0 h1 h2 (by omega) h4) (fun h => by have := h.2.2.1; omega)
    by_cases h5 : b.length ≤ 9000
    rotate_left
    · exact no (few5_d cs L Q b ve un an en na s _ _ _ _ _ _ w F0 h1 h2 (by omega)) (fun h => by have := h.2.2.2.1; omega)
    by_cases t0 : ve.length ≤ 200
    rotate_left
    · exact no (few5_y0 cs L Q b ve un an en na s _ _ _ _ _ _ w F0 h1 h2 (by omega) h5  (by omega)) (fun h => by have := h.2.2.2.2.1; omega)
    by_cases t1 : un.length ≤ 200
    rotate_left
    · exact no (few5_y1 cs L Q b ve un an en na s _ _ _ _ _ _ w F0 h1 h2 (by omega) h5 t0 (by omega)) (fun h => by have := h.2.2.2.2.2.1; omega)
    by_cases t2 : an.length ≤ 200
    rotate_left
    · exact no (few5_y2 cs L Q b ve un an en na s _ _ _ _ _ _ w F0 h1 h2 (by omega) h5 t0 t1 (by omega)) (fun h => by have := h.2.2.2.2.2.2.1; omega)
    by_cases t3 : en.length ≤ 200
    rotate_left
    · exact no (few5_y3 cs L Q b ve un an en na s _ _ _ _ _ _ w F0 h1 h2 (by omega) h5 t0 t1 t2 (by omega)) (fun h => by have := h.2.2.2.2.2.2.2.1; omega)
    by_cases t4 : na.length ≤ 200
    rotate_left
    · exact no (few5_y4 cs L Q b ve un an en na s _ _ _ _ _ _ w F0 h1 h2 (by omega) h5 t0 t1 t2 t3 (by omega)) (fun h => by have := h.2.2.2.2.2.2.2.2.1; omega)
    by_cases hs : s.isFew
    · exact (few5_y6 cs L Q b ve un an en na s _ _ _ _ _ _ w F0 h1 h2 (by omega) h5 t0 t1 t2 t3 t4 hs hst).mono fun e w' st => st.of ⟨fun h => ⟨h1, h2, by omega, by omega, t0, t1, t2, t3, t4, hs, h⟩, fun h => h.2.2.2.2.2.2.2.2.2.2⟩
    · exact no (few5_y5 cs L Q b ve un an en na s _ _ _ _ _ _ w F0 h1 h2 (by omega) h5 t0 t1 t2 t3 t4 hs) (fun h => hs h.2.2.2.2.2.2.2.2.2.1)
end Go.Proofs.YtepiifbleoimkaaDoor
