/-
  The second reading's body: the fields of a message that have no list, added one behind another.
-/
import Derived.Test.YtepiifbleoimkaaGreatDoorRefMsgB
namespace Go.Proofs.YtepiifbleoimkaaGreatDoor
open Go.RowKit
set_option maxRecDepth 100000

/-- What the second reading adds for a field; its error; all fields. -/
def rE : F → Int
  | .text l => wrongOf l
  | .texts L => wrongL L
  | .stat s => wrongL s.texts
  | _ => 0
def rB : F → List UInt8
  | .stat s => statR s
  | f => fB f
def rAdd (st : List UInt8 × Int) (f : F) : List UInt8 × Int := (st.1 ++ rB f, nextBad st.2 (rE f))
def rAll (st : List UInt8 × Int) (fs : List F) : List UInt8 × Int := fs.foldl rAdd st
theorem nextBad_zero (b : Int) : nextBad b 0 = b := by
  unfold nextBad
  split
  · rename_i h
    exact h.symm
  · rfl

/-- A row of addings to an out. -/
structure RC (w0 : World) (B g : Nat) (v : Value) (st : List UInt8 × Int) (n : Nat) (w : World) (v1 : Value) : Prop where
  out : ROutAt w B g v1 st.1 st.2
  only : Only (Foot g v) w0 w
  own : ∀ i, v1.ownBlock = some i → v.ownBlock = some i ∨ w0.heap.size ≤ i
  len : st.1.length ≤ n
theorem RC.start {w : World} {B g : Nat} {v : Value} {st : List UInt8 × Int} {n : Nat} (h : ROutAt w B g v st.1 st.2) (hl : st.1.length ≤ n) : RC w B g v st n w v := ⟨h, Only.refl _ _, fun _ h => .inl h, hl⟩
theorem RC.step {w0 w w1 : World} {B g : Nat} {v v1 : Value} {st : List UInt8 × Int} {n : Nat} {e : Ending} (c : RC w0 B g v st n w v1) (f : F) (hf : (rB f).length ≤ 120000) (h : ROutStep w B g v1 (rAdd st f).1 (rAdd st f).2 e w1) :
    ∃ v2, e = .returned (.tuple #[]) ∧ RC w0 B g v (rAdd st f) (n + 120000) w1 v2 := by
  obtain ⟨v2, he, o, k, q⟩ := ROutStep.next c.only c.own h
  have := c.len
  exact ⟨v2, he, o, k, q, by show (st.1 ++ rB f).length ≤ _; rw [List.length_append]; omega⟩
theorem RC.fin {w w0 w1 : World} {B g : Nat} {v v1 : Value} {st : List UInt8 × Int} {n : Nat} (c : RC w0 B g v st n w1 v1) (k : Only (fun _ => False) w w0) : ROutStep w B g v st.1 st.2 (.returned (.tuple #[])) w1 :=
  ⟨v1, rfl, c.out, (k.mono (fun _ _ h => h.elim)).trans c.only (fun _ _ h => h), fun i hi => (c.own i hi).imp id (fun h => by have := k.size; omega)⟩
/-- What a step leaves. -/
def RCStep (w0 : World) (B g : Nat) (v : Value) (st : List UInt8 × Int) (n : Nat) (e : Ending) (w1 : World) : Prop := ∃ v2, e = .returned (.tuple #[]) ∧ RC w0 B g v st n w1 v2

theorem rc_num {w0 w : World} {B g : Nat} {v v1 : Value} {st : List UInt8 × Int} {n : Nat} (c : RC w0 B g v st n w v1) (hn : n ≤ 800000) (k x : Nat) (h1 : 1 ≤ k) (h8 : k ≤ 8) :
    Calls Tryz.prog 46 #[.pointer (some ⟨g, 0, none⟩), .int .i64 (k : Int), .int .u64 (x : Int)] w (RCStep w0 B g v (rAdd st (.num k x)) (n + 120000)) := by
  have := c.len
  refine (rnum_any B g v1 st.1 st.2 (k : Int) (x : Int) w c.out (by omega) (by omega)).mono ?_
  intro e w1 h
  rw [putI_of k x h1 h8] at h
  refine c.step (.num k x) (by show (putB k x).length ≤ _; rw [putB_length]; omega) ?_
  show ROutStep w B g v1 (st.1 ++ putB k x) (nextBad st.2 0) e w1
  rw [nextBad_zero]
  exact h
theorem rc_text {w0 w : World} {B g : Nat} {v v1 : Value} {st : List UInt8 × Int} {n : Nat} (c : RC w0 B g v st n w v1) (hn : n ≤ 800000) (l : List UInt8) (hl : l.length ≤ 1000) :
    Calls Tryz.prog 47 #[.pointer (some ⟨g, 0, none⟩), .string (strOf l)] w (RCStep w0 B g v (rAdd st (.text l)) (n + 120000)) := by
  have := c.len
  refine (rtext_any B g v1 st.1 l st.2 w c.out hl (by omega)).mono ?_
  intro e w1 h
  exact c.step (.text l) (by show (textB l).length ≤ _; have := textB_le l; omega) h
theorem rc_qid {w0 w : World} {B g : Nat} {v v1 : Value} {st : List UInt8 × Int} {n : Nat} (c : RC w0 B g v st n w v1) (hn : n ≤ 800000) (q : Q3) (hq : q.Ok) :
    Calls Tryz.prog 48 #[.pointer (some ⟨g, 0, none⟩), q.val] w (RCStep w0 B g v (rAdd st (.qid q)) (n + 120000)) := by
  have := c.len
  refine (rqid_any B g v1 st.1 st.2 q w c.out hq (by omega)).mono ?_
  intro e w1 h
  refine c.step (.qid q) (by show (qidB q).length ≤ _; rw [qidB_length]; omega) ?_
  show ROutStep w B g v1 (st.1 ++ qidB q) (nextBad st.2 0) e w1
  rw [nextBad_zero]
  exact h
theorem statR_le (s : S11) (hs : s.Few) : (statR s).length ≤ 5100 := by
  unfold statR
  split
  · rename_i hz
    rw [List.length_append, putB_length, recB_length hz]
    obtain ⟨h1, h2, h3, h4⟩ := hs
    unfold S11.size
    omega
  · rw [putB_length]
    omega
theorem rc_stat {w0 w : World} {B g : Nat} {v v1 : Value} {st : List UInt8 × Int} {n : Nat} (c : RC w0 B g v st n w v1) (hn : n ≤ 800000) (s : S11) (hN : s.Num) (hs : s.Few) :
    Calls Tryz.prog 49 #[.pointer (some ⟨g, 0, none⟩), s.val] w (RCStep w0 B g v (rAdd st (.stat s)) (n + 120000)) := by
  have := c.len
  refine (rstat_any B g v1 st.1 st.2 s w c.out hN hs (by omega)).mono ?_
  intro e w1 h
  exact c.step (.stat s) (by show (statR s).length ≤ _; have := statR_le s hs; omega) h
set_option maxHeartbeats 1000000 in
theorem rbody_100 (B g : Nat) (v : Value) (st : List UInt8 × Int) (cs : Array Value) (w : World) (ho : ROutAt w B g v st.1 st.2) (hl : st.1.length ≤ 300000) (c0 : cs[0]? = some (.int .u8 100)) (x2 : Nat) (c2 : cs[2]? = some (.int .u32 (x2 : Int))) (h2 : x2 < 256 ^ 4) (l3 : List UInt8) (c3 : cs[3]? = some (.string (strOf l3))) (h3 : l3.length ≤ 1000) :
    Calls Tryz.prog 22 #[.pointer (some ⟨g, 0, none⟩), .agg cs] w (ROutStep w B g v (rAll st [.num 4 x2, .text l3]).1 (rAll st [.num 4 x2, .text l3]).2) := by
  obtain ⟨W, hW⟩ : ∃ W, W = w.alloc (.cells cs 43) := ⟨_, rfl⟩
  have k0 : Only (fun _ => False) w W := by rw [hW]; exact (Only.refl _ w).alloc _
  have n0 : Has W w.heap.size 43 cs := by rw [hW]; exact Has.new _ _ _
  have X0 := Lib.hid (RC.start (ho.only k0 (fun _ _ h => h)) hl)
  have hnf : ¬ Foot g v w.heap.size := fun h => by have := (ho.foot_lt h).2; omega
  have HM := Lib.hid (fun (w1 : World) (v1 : Value) (st1 : List UInt8 × Int) (n : Nat) (c : RC W B g v st1 n w1 v1) => n0.only c.only hnf)
  have u2 : IntKind.u64.wrap (x2 : Int) = (x2 : Int) := IntWalk.u64_in _ (by omega)
  have d0 := (n0.cell 0).trans c0
  have d2 := (n0.cell 2).trans c2
  rw [hW] at d0 d2
  clear n0
  have HW := Lib.hid hW.symm
  clear hW
  go_enter Tryz.func22, Tryz.ntmps22
  go_wp2_with fail
  rw [HW.out]
  clear HW d0 d2
  refine (rc_num X0.out (by omega) 4 x2 (by omega) (by omega)).mono ?_
  rintro e w1 ⟨v1, rfl, y1⟩
  have m1 := HM.out _ _ _ _ y1
  have d3 := (m1.cell 3).trans c3
  have X1 := Lib.hid y1
  clear y1 m1 X0
  go_wp2_with fail
  refine (rc_text X1.out (by omega) l3 h3).mono ?_
  rintro e w2 ⟨v2, rfl, y2⟩
  have R := Lib.hid (y2.fin k0)
  clear y2 X1 HM
  go_wp2
  go_end0
  exact R.out
set_option maxHeartbeats 1000000 in
theorem rbody_101 (B g : Nat) (v : Value) (st : List UInt8 × Int) (cs : Array Value) (w : World) (ho : ROutAt w B g v st.1 st.2) (hl : st.1.length ≤ 300000) (c0 : cs[0]? = some (.int .u8 101)) (x2 : Nat) (c2 : cs[2]? = some (.int .u32 (x2 : Int))) (h2 : x2 < 256 ^ 4) (l3 : List UInt8) (c3 : cs[3]? = some (.string (strOf l3))) (h3 : l3.length ≤ 1000) :
    Calls Tryz.prog 22 #[.pointer (some ⟨g, 0, none⟩), .agg cs] w (ROutStep w B g v (rAll st [.num 4 x2, .text l3]).1 (rAll st [.num 4 x2, .text l3]).2) := by
  obtain ⟨W, hW⟩ : ∃ W, W = w.alloc (.cells cs 43) := ⟨_, rfl⟩
  have k0 : Only (fun _ => False) w W := by rw [hW]; exact (Only.refl _ w).alloc _
  have n0 : Has W w.heap.size 43 cs := by rw [hW]; exact Has.new _ _ _
  have X0 := Lib.hid (RC.start (ho.only k0 (fun _ _ h => h)) hl)
  have hnf : ¬ Foot g v w.heap.size := fun h => by have := (ho.foot_lt h).2; omega
  have HM := Lib.hid (fun (w1 : World) (v1 : Value) (st1 : List UInt8 × Int) (n : Nat) (c : RC W B g v st1 n w1 v1) => n0.only c.only hnf)
  have u2 : IntKind.u64.wrap (x2 : Int) = (x2 : Int) := IntWalk.u64_in _ (by omega)
  have d0 := (n0.cell 0).trans c0
  have d2 := (n0.cell 2).trans c2
  rw [hW] at d0 d2
  clear n0
  have HW := Lib.hid hW.symm
  clear hW
  go_enter Tryz.func22, Tryz.ntmps22
  go_wp2_with fail
  rw [HW.out]
  clear HW d0 d2
  refine (rc_num X0.out (by omega) 4 x2 (by omega) (by omega)).mono ?_
  rintro e w1 ⟨v1, rfl, y1⟩
  have m1 := HM.out _ _ _ _ y1
  have d3 := (m1.cell 3).trans c3
  have X1 := Lib.hid y1
  clear y1 m1 X0
  go_wp2_with fail
  refine (rc_text X1.out (by omega) l3 h3).mono ?_
  rintro e w2 ⟨v2, rfl, y2⟩
  have R := Lib.hid (y2.fin k0)
  clear y2 X1 HM
  go_wp2
  go_end0
  exact R.out
set_option maxHeartbeats 1000000 in
theorem rbody_102 (B g : Nat) (v : Value) (st : List UInt8 × Int) (cs : Array Value) (w : World) (ho : ROutAt w B g v st.1 st.2) (hl : st.1.length ≤ 300000) (c0 : cs[0]? = some (.int .u8 102)) (x5 : Nat) (c5 : cs[5]? = some (.int .u32 (x5 : Int))) (h5 : x5 < 256 ^ 4) (l7 : List UInt8) (c7 : cs[7]? = some (.string (strOf l7))) (h7 : l7.length ≤ 1000) (l8 : List UInt8) (c8 : cs[8]? = some (.string (strOf l8))) (h8 : l8.length ≤ 1000) :
    Calls Tryz.prog 22 #[.pointer (some ⟨g, 0, none⟩), .agg cs] w (ROutStep w B g v (rAll st [.num 4 x5, .text l7, .text l8]).1 (rAll st [.num 4 x5, .text l7, .text l8]).2) := by
  obtain ⟨W, hW⟩ : ∃ W, W = w.alloc (.cells cs 43) := ⟨_, rfl⟩
  have k0 : Only (fun _ => False) w W := by rw [hW]; exact (Only.refl _ w).alloc _
  have n0 : Has W w.heap.size 43 cs := by rw [hW]; exact Has.new _ _ _
  have X0 := Lib.hid (RC.start (ho.only k0 (fun _ _ h => h)) hl)
  have hnf : ¬ Foot g v w.heap.size := fun h => by have := (ho.foot_lt h).2; omega
  have HM := Lib.hid (fun (w1 : World) (v1 : Value) (st1 : List UInt8 × Int) (n : Nat) (c : RC W B g v st1 n w1 v1) => n0.only c.only hnf)
  have u5 : IntKind.u64.wrap (x5 : Int) = (x5 : Int) := IntWalk.u64_in _ (by omega)
  have d0 := (n0.cell 0).trans c0
  have d5 := (n0.cell 5).trans c5
  rw [hW] at d0 d5
  clear n0
  have HW := Lib.hid hW.symm
  clear hW
  go_enter Tryz.func22, Tryz.ntmps22
  go_wp2_with fail
  rw [HW.out]
  clear HW d0 d5
  refine (rc_num X0.out (by omega) 4 x5 (by omega) (by omega)).mono ?_
  rintro e w1 ⟨v1, rfl, y1⟩
  have m1 := HM.out _ _ _ _ y1
  have d7 := (m1.cell 7).trans c7
  have X1 := Lib.hid y1
  clear y1 m1 X0
  go_wp2_with fail
  refine (rc_text X1.out (by omega) l7 h7).mono ?_
  rintro e w2 ⟨v2, rfl, y2⟩
  have m2 := HM.out _ _ _ _ y2
  have d8 := (m2.cell 8).trans c8
  have X2 := Lib.hid y2
  clear y2 m2 X1
  go_wp2_with fail
  refine (rc_text X2.out (by omega) l8 h8).mono ?_
  rintro e w3 ⟨v3, rfl, y3⟩
  have R := Lib.hid (y3.fin k0)
  clear y3 X2 HM
  go_wp2
  go_end0
  exact R.out
set_option maxHeartbeats 1000000 in
theorem rbody_103 (B g : Nat) (v : Value) (st : List UInt8 × Int) (cs : Array Value) (w : World) (ho : ROutAt w B g v st.1 st.2) (hl : st.1.length ≤ 300000) (c0 : cs[0]? = some (.int .u8 103)) (q : Q3) (c13 : cs[13]? = some (.int .u8 (q.t : Int)) ∧ cs[14]? = some (.int .u32 (q.v : Int)) ∧ cs[15]? = some (.int .u64 (q.p : Int))) (h13 : q.Ok) :
    Calls Tryz.prog 22 #[.pointer (some ⟨g, 0, none⟩), .agg cs] w (ROutStep w B g v (rAll st [.qid q]).1 (rAll st [.qid q]).2) := by
  obtain ⟨W, hW⟩ : ∃ W, W = w.alloc (.cells cs 43) := ⟨_, rfl⟩
  have k0 : Only (fun _ => False) w W := by rw [hW]; exact (Only.refl _ w).alloc _
  have n0 : Has W w.heap.size 43 cs := by rw [hW]; exact Has.new _ _ _
  have X0 := Lib.hid (RC.start (ho.only k0 (fun _ _ h => h)) hl)
  have hnf : ¬ Foot g v w.heap.size := fun h => by have := (ho.foot_lt h).2; omega
  have HM := Lib.hid (fun (w1 : World) (v1 : Value) (st1 : List UInt8 × Int) (n : Nat) (c : RC W B g v st1 n w1 v1) => n0.only c.only hnf)
  have d0 := (n0.cell 0).trans c0
  have d13a := (n0.cell 13).trans c13.1
  have d13b := (n0.cell 14).trans c13.2.1
  have d13c := (n0.cell 15).trans c13.2.2
  rw [hW] at d0 d13a d13b d13c
  clear n0
  have HW := Lib.hid hW.symm
  clear hW
  go_enter Tryz.func22, Tryz.ntmps22
  go_wp2_with fail
  rw [HW.out]
  clear HW d0 d13a d13b d13c
  refine (rc_qid X0.out (by omega) q h13).mono ?_
  rintro e w1 ⟨v1, rfl, y1⟩
  have R := Lib.hid (y1.fin k0)
  clear y1 X0 HM
  go_wp2
  go_end0
  exact R.out
set_option maxHeartbeats 1000000 in
theorem rbody_104 (B g : Nat) (v : Value) (st : List UInt8 × Int) (cs : Array Value) (w : World) (ho : ROutAt w B g v st.1 st.2) (hl : st.1.length ≤ 300000) (c0 : cs[0]? = some (.int .u8 104)) (x4 : Nat) (c4 : cs[4]? = some (.int .u32 (x4 : Int))) (h4 : x4 < 256 ^ 4) (x5 : Nat) (c5 : cs[5]? = some (.int .u32 (x5 : Int))) (h5 : x5 < 256 ^ 4) (l7 : List UInt8) (c7 : cs[7]? = some (.string (strOf l7))) (h7 : l7.length ≤ 1000) (l8 : List UInt8) (c8 : cs[8]? = some (.string (strOf l8))) (h8 : l8.length ≤ 1000) :
    Calls Tryz.prog 22 #[.pointer (some ⟨g, 0, none⟩), .agg cs] w (ROutStep w B g v (rAll st [.num 4 x4, .num 4 x5, .text l7, .text l8]).1 (rAll st [.num 4 x4, .num 4 x5, .text l7, .text l8]).2) := by
  obtain ⟨W, hW⟩ : ∃ W, W = w.alloc (.cells cs 43) := ⟨_, rfl⟩
  have k0 : Only (fun _ => False) w W := by rw [hW]; exact (Only.refl _ w).alloc _
  have n0 : Has W w.heap.size 43 cs := by rw [hW]; exact Has.new _ _ _
  have X0 := Lib.hid (RC.start (ho.only k0 (fun _ _ h => h)) hl)
  have hnf : ¬ Foot g v w.heap.size := fun h => by have := (ho.foot_lt h).2; omega
  have HM := Lib.hid (fun (w1 : World) (v1 : Value) (st1 : List UInt8 × Int) (n : Nat) (c : RC W B g v st1 n w1 v1) => n0.only c.only hnf)
  have u4 : IntKind.u64.wrap (x4 : Int) = (x4 : Int) := IntWalk.u64_in _ (by omega)
  have u5 : IntKind.u64.wrap (x5 : Int) = (x5 : Int) := IntWalk.u64_in _ (by omega)
  have d0 := (n0.cell 0).trans c0
  have d4 := (n0.cell 4).trans c4
  rw [hW] at d0 d4
  clear n0
  have HW := Lib.hid hW.symm
  clear hW
  go_enter Tryz.func22, Tryz.ntmps22
  go_wp2_with fail
  rw [HW.out]
  clear HW d0 d4
  refine (rc_num X0.out (by omega) 4 x4 (by omega) (by omega)).mono ?_
  rintro e w1 ⟨v1, rfl, y1⟩
  have m1 := HM.out _ _ _ _ y1
  have d5 := (m1.cell 5).trans c5
  have X1 := Lib.hid y1
  clear y1 m1 X0
  go_wp2_with fail
  refine (rc_num X1.out (by omega) 4 x5 (by omega) (by omega)).mono ?_
  rintro e w2 ⟨v2, rfl, y2⟩
  have m2 := HM.out _ _ _ _ y2
  have d7 := (m2.cell 7).trans c7
  have X2 := Lib.hid y2
  clear y2 m2 X1
  go_wp2_with fail
  refine (rc_text X2.out (by omega) l7 h7).mono ?_
  rintro e w3 ⟨v3, rfl, y3⟩
  have m3 := HM.out _ _ _ _ y3
  have d8 := (m3.cell 8).trans c8
  have X3 := Lib.hid y3
  clear y3 m3 X2
  go_wp2_with fail
  refine (rc_text X3.out (by omega) l8 h8).mono ?_
  rintro e w4 ⟨v4, rfl, y4⟩
  have R := Lib.hid (y4.fin k0)
  clear y4 X3 HM
  go_wp2
  go_end0
  exact R.out
set_option maxHeartbeats 1000000 in
theorem rbody_105 (B g : Nat) (v : Value) (st : List UInt8 × Int) (cs : Array Value) (w : World) (ho : ROutAt w B g v st.1 st.2) (hl : st.1.length ≤ 300000) (c0 : cs[0]? = some (.int .u8 105)) (q : Q3) (c13 : cs[13]? = some (.int .u8 (q.t : Int)) ∧ cs[14]? = some (.int .u32 (q.v : Int)) ∧ cs[15]? = some (.int .u64 (q.p : Int))) (h13 : q.Ok) :
    Calls Tryz.prog 22 #[.pointer (some ⟨g, 0, none⟩), .agg cs] w (ROutStep w B g v (rAll st [.qid q]).1 (rAll st [.qid q]).2) := by
  obtain ⟨W, hW⟩ : ∃ W, W = w.alloc (.cells cs 43) := ⟨_, rfl⟩
  have k0 : Only (fun _ => False) w W := by rw [hW]; exact (Only.refl _ w).alloc _
  have n0 : Has W w.heap.size 43 cs := by rw [hW]; exact Has.new _ _ _
  have X0 := Lib.hid (RC.start (ho.only k0 (fun _ _ h => h)) hl)
  have hnf : ¬ Foot g v w.heap.size := fun h => by have := (ho.foot_lt h).2; omega
  have HM := Lib.hid (fun (w1 : World) (v1 : Value) (st1 : List UInt8 × Int) (n : Nat) (c : RC W B g v st1 n w1 v1) => n0.only c.only hnf)
  have d0 := (n0.cell 0).trans c0
  have d13a := (n0.cell 13).trans c13.1
  have d13b := (n0.cell 14).trans c13.2.1
  have d13c := (n0.cell 15).trans c13.2.2
  rw [hW] at d0 d13a d13b d13c
  clear n0
  have HW := Lib.hid hW.symm
  clear hW
  go_enter Tryz.func22, Tryz.ntmps22
  go_wp2_with fail
  rw [HW.out]
  clear HW d0 d13a d13b d13c
  refine (rc_qid X0.out (by omega) q h13).mono ?_
  rintro e w1 ⟨v1, rfl, y1⟩
  have R := Lib.hid (y1.fin k0)
  clear y1 X0 HM
  go_wp2
  go_end0
  exact R.out
set_option maxHeartbeats 1000000 in
theorem rbody_107 (B g : Nat) (v : Value) (st : List UInt8 × Int) (cs : Array Value) (w : World) (ho : ROutAt w B g v st.1 st.2) (hl : st.1.length ≤ 300000) (c0 : cs[0]? = some (.int .u8 107)) (l9 : List UInt8) (c9 : cs[9]? = some (.string (strOf l9))) (h9 : l9.length ≤ 1000) :
    Calls Tryz.prog 22 #[.pointer (some ⟨g, 0, none⟩), .agg cs] w (ROutStep w B g v (rAll st [.text l9]).1 (rAll st [.text l9]).2) := by
  obtain ⟨W, hW⟩ : ∃ W, W = w.alloc (.cells cs 43) := ⟨_, rfl⟩
  have k0 : Only (fun _ => False) w W := by rw [hW]; exact (Only.refl _ w).alloc _
  have n0 : Has W w.heap.size 43 cs := by rw [hW]; exact Has.new _ _ _
  have X0 := Lib.hid (RC.start (ho.only k0 (fun _ _ h => h)) hl)
  have hnf : ¬ Foot g v w.heap.size := fun h => by have := (ho.foot_lt h).2; omega
  have HM := Lib.hid (fun (w1 : World) (v1 : Value) (st1 : List UInt8 × Int) (n : Nat) (c : RC W B g v st1 n w1 v1) => n0.only c.only hnf)
  have d0 := (n0.cell 0).trans c0
  have d9 := (n0.cell 9).trans c9
  rw [hW] at d0 d9
  clear n0
  have HW := Lib.hid hW.symm
  clear hW
  go_enter Tryz.func22, Tryz.ntmps22
  go_wp2_with fail
  rw [HW.out]
  clear HW d0 d9
  refine (rc_text X0.out (by omega) l9 h9).mono ?_
  rintro e w1 ⟨v1, rfl, y1⟩
  have R := Lib.hid (y1.fin k0)
  clear y1 X0 HM
  go_wp2
  go_end0
  exact R.out
set_option maxHeartbeats 1000000 in
theorem rbody_108 (B g : Nat) (v : Value) (st : List UInt8 × Int) (cs : Array Value) (w : World) (ho : ROutAt w B g v st.1 st.2) (hl : st.1.length ≤ 300000) (c0 : cs[0]? = some (.int .u8 108)) (x10 : Nat) (c10 : cs[10]? = some (.int .u16 (x10 : Int))) (h10 : x10 < 256 ^ 2) :
    Calls Tryz.prog 22 #[.pointer (some ⟨g, 0, none⟩), .agg cs] w (ROutStep w B g v (rAll st [.num 2 x10]).1 (rAll st [.num 2 x10]).2) := by
  obtain ⟨W, hW⟩ : ∃ W, W = w.alloc (.cells cs 43) := ⟨_, rfl⟩
  have k0 : Only (fun _ => False) w W := by rw [hW]; exact (Only.refl _ w).alloc _
  have n0 : Has W w.heap.size 43 cs := by rw [hW]; exact Has.new _ _ _
  have X0 := Lib.hid (RC.start (ho.only k0 (fun _ _ h => h)) hl)
  have hnf : ¬ Foot g v w.heap.size := fun h => by have := (ho.foot_lt h).2; omega
  have HM := Lib.hid (fun (w1 : World) (v1 : Value) (st1 : List UInt8 × Int) (n : Nat) (c : RC W B g v st1 n w1 v1) => n0.only c.only hnf)
  have u10 : IntKind.u64.wrap (x10 : Int) = (x10 : Int) := IntWalk.u64_in _ (by omega)
  have d0 := (n0.cell 0).trans c0
  have d10 := (n0.cell 10).trans c10
  rw [hW] at d0 d10
  clear n0
  have HW := Lib.hid hW.symm
  clear hW
  go_enter Tryz.func22, Tryz.ntmps22
  go_wp2_with fail
  rw [HW.out]
  clear HW d0 d10
  refine (rc_num X0.out (by omega) 2 x10 (by omega) (by omega)).mono ?_
  rintro e w1 ⟨v1, rfl, y1⟩
  have R := Lib.hid (y1.fin k0)
  clear y1 X0 HM
  go_wp2
  go_end0
  exact R.out
set_option maxHeartbeats 1000000 in
theorem rbody_112 (B g : Nat) (v : Value) (st : List UInt8 × Int) (cs : Array Value) (w : World) (ho : ROutAt w B g v st.1 st.2) (hl : st.1.length ≤ 300000) (c0 : cs[0]? = some (.int .u8 112)) (x4 : Nat) (c4 : cs[4]? = some (.int .u32 (x4 : Int))) (h4 : x4 < 256 ^ 4) (x17 : Nat) (c17 : cs[17]? = some (.int .u8 (x17 : Int))) (h17 : x17 < 256 ^ 1) :
    Calls Tryz.prog 22 #[.pointer (some ⟨g, 0, none⟩), .agg cs] w (ROutStep w B g v (rAll st [.num 4 x4, .num 1 x17]).1 (rAll st [.num 4 x4, .num 1 x17]).2) := by
  obtain ⟨W, hW⟩ : ∃ W, W = w.alloc (.cells cs 43) := ⟨_, rfl⟩
  have k0 : Only (fun _ => False) w W := by rw [hW]; exact (Only.refl _ w).alloc _
  have n0 : Has W w.heap.size 43 cs := by rw [hW]; exact Has.new _ _ _
  have X0 := Lib.hid (RC.start (ho.only k0 (fun _ _ h => h)) hl)
  have hnf : ¬ Foot g v w.heap.size := fun h => by have := (ho.foot_lt h).2; omega
  have HM := Lib.hid (fun (w1 : World) (v1 : Value) (st1 : List UInt8 × Int) (n : Nat) (c : RC W B g v st1 n w1 v1) => n0.only c.only hnf)
  have u4 : IntKind.u64.wrap (x4 : Int) = (x4 : Int) := IntWalk.u64_in _ (by omega)
  have u17 : IntKind.u64.wrap (x17 : Int) = (x17 : Int) := IntWalk.u64_in _ (by omega)
  have d0 := (n0.cell 0).trans c0
  have d4 := (n0.cell 4).trans c4
  rw [hW] at d0 d4
  clear n0
  have HW := Lib.hid hW.symm
  clear hW
  go_enter Tryz.func22, Tryz.ntmps22
  go_wp2_with fail
  rw [HW.out]
  clear HW d0 d4
  refine (rc_num X0.out (by omega) 4 x4 (by omega) (by omega)).mono ?_
  rintro e w1 ⟨v1, rfl, y1⟩
  have m1 := HM.out _ _ _ _ y1
  have d17 := (m1.cell 17).trans c17
  have X1 := Lib.hid y1
  clear y1 m1 X0
  go_wp2_with fail
  refine (rc_num X1.out (by omega) 1 x17 (by omega) (by omega)).mono ?_
  rintro e w2 ⟨v2, rfl, y2⟩
  have R := Lib.hid (y2.fin k0)
  clear y2 X1 HM
  go_wp2
  go_end0
  exact R.out
set_option maxHeartbeats 1000000 in
theorem rbody_113 (B g : Nat) (v : Value) (st : List UInt8 × Int) (cs : Array Value) (w : World) (ho : ROutAt w B g v st.1 st.2) (hl : st.1.length ≤ 300000) (c0 : cs[0]? = some (.int .u8 113)) (q : Q3) (c13 : cs[13]? = some (.int .u8 (q.t : Int)) ∧ cs[14]? = some (.int .u32 (q.v : Int)) ∧ cs[15]? = some (.int .u64 (q.p : Int))) (h13 : q.Ok) (x16 : Nat) (c16 : cs[16]? = some (.int .u32 (x16 : Int))) (h16 : x16 < 256 ^ 4) :
    Calls Tryz.prog 22 #[.pointer (some ⟨g, 0, none⟩), .agg cs] w (ROutStep w B g v (rAll st [.qid q, .num 4 x16]).1 (rAll st [.qid q, .num 4 x16]).2) := by
  obtain ⟨W, hW⟩ : ∃ W, W = w.alloc (.cells cs 43) := ⟨_, rfl⟩
  have k0 : Only (fun _ => False) w W := by rw [hW]; exact (Only.refl _ w).alloc _
  have n0 : Has W w.heap.size 43 cs := by rw [hW]; exact Has.new _ _ _
  have X0 := Lib.hid (RC.start (ho.only k0 (fun _ _ h => h)) hl)
  have hnf : ¬ Foot g v w.heap.size := fun h => by have := (ho.foot_lt h).2; omega
  have HM := Lib.hid (fun (w1 : World) (v1 : Value) (st1 : List UInt8 × Int) (n : Nat) (c : RC W B g v st1 n w1 v1) => n0.only c.only hnf)
  have u16 : IntKind.u64.wrap (x16 : Int) = (x16 : Int) := IntWalk.u64_in _ (by omega)
  have d0 := (n0.cell 0).trans c0
  have d13a := (n0.cell 13).trans c13.1
  have d13b := (n0.cell 14).trans c13.2.1
  have d13c := (n0.cell 15).trans c13.2.2
  rw [hW] at d0 d13a d13b d13c
  clear n0
  have HW := Lib.hid hW.symm
  clear hW
  go_enter Tryz.func22, Tryz.ntmps22
  go_wp2_with fail
  rw [HW.out]
  clear HW d0 d13a d13b d13c
  refine (rc_qid X0.out (by omega) q h13).mono ?_
  rintro e w1 ⟨v1, rfl, y1⟩
  have m1 := HM.out _ _ _ _ y1
  have d16 := (m1.cell 16).trans c16
  have X1 := Lib.hid y1
  clear y1 m1 X0
  go_wp2_with fail
  refine (rc_num X1.out (by omega) 4 x16 (by omega) (by omega)).mono ?_
  rintro e w2 ⟨v2, rfl, y2⟩
  have R := Lib.hid (y2.fin k0)
  clear y2 X1 HM
  go_wp2
  go_end0
  exact R.out
set_option maxHeartbeats 1000000 in
theorem rbody_114 (B g : Nat) (v : Value) (st : List UInt8 × Int) (cs : Array Value) (w : World) (ho : ROutAt w B g v st.1 st.2) (hl : st.1.length ≤ 300000) (c0 : cs[0]? = some (.int .u8 114)) (x4 : Nat) (c4 : cs[4]? = some (.int .u32 (x4 : Int))) (h4 : x4 < 256 ^ 4) (l19 : List UInt8) (c19 : cs[19]? = some (.string (strOf l19))) (h19 : l19.length ≤ 1000) (x18 : Nat) (c18 : cs[18]? = some (.int .u32 (x18 : Int))) (h18 : x18 < 256 ^ 4) (x17 : Nat) (c17 : cs[17]? = some (.int .u8 (x17 : Int))) (h17 : x17 < 256 ^ 1) :
    Calls Tryz.prog 22 #[.pointer (some ⟨g, 0, none⟩), .agg cs] w (ROutStep w B g v (rAll st [.num 4 x4, .text l19, .num 4 x18, .num 1 x17]).1 (rAll st [.num 4 x4, .text l19, .num 4 x18, .num 1 x17]).2) := by
  obtain ⟨W, hW⟩ : ∃ W, W = w.alloc (.cells cs 43) := ⟨_, rfl⟩
  have k0 : Only (fun _ => False) w W := by rw [hW]; exact (Only.refl _ w).alloc _
  have n0 : Has W w.heap.size 43 cs := by rw [hW]; exact Has.new _ _ _
  have X0 := Lib.hid (RC.start (ho.only k0 (fun _ _ h => h)) hl)
  have hnf : ¬ Foot g v w.heap.size := fun h => by have := (ho.foot_lt h).2; omega
  have HM := Lib.hid (fun (w1 : World) (v1 : Value) (st1 : List UInt8 × Int) (n : Nat) (c : RC W B g v st1 n w1 v1) => n0.only c.only hnf)
  have u4 : IntKind.u64.wrap (x4 : Int) = (x4 : Int) := IntWalk.u64_in _ (by omega)
  have u18 : IntKind.u64.wrap (x18 : Int) = (x18 : Int) := IntWalk.u64_in _ (by omega)
  have u17 : IntKind.u64.wrap (x17 : Int) = (x17 : Int) := IntWalk.u64_in _ (by omega)
  have d0 := (n0.cell 0).trans c0
  have d4 := (n0.cell 4).trans c4
  rw [hW] at d0 d4
  clear n0
  have HW := Lib.hid hW.symm
  clear hW
  go_enter Tryz.func22, Tryz.ntmps22
  go_wp2_with fail
  rw [HW.out]
  clear HW d0 d4
  refine (rc_num X0.out (by omega) 4 x4 (by omega) (by omega)).mono ?_
  rintro e w1 ⟨v1, rfl, y1⟩
  have m1 := HM.out _ _ _ _ y1
  have d19 := (m1.cell 19).trans c19
  have X1 := Lib.hid y1
  clear y1 m1 X0
  go_wp2_with fail
  refine (rc_text X1.out (by omega) l19 h19).mono ?_
  rintro e w2 ⟨v2, rfl, y2⟩
  have m2 := HM.out _ _ _ _ y2
  have d18 := (m2.cell 18).trans c18
  have X2 := Lib.hid y2
  clear y2 m2 X1
  go_wp2_with fail
  refine (rc_num X2.out (by omega) 4 x18 (by omega) (by omega)).mono ?_
  rintro e w3 ⟨v3, rfl, y3⟩
  have m3 := HM.out _ _ _ _ y3
  have d17 := (m3.cell 17).trans c17
  have X3 := Lib.hid y3
  clear y3 m3 X2
  go_wp2_with fail
  refine (rc_num X3.out (by omega) 1 x17 (by omega) (by omega)).mono ?_
  rintro e w4 ⟨v4, rfl, y4⟩
  have R := Lib.hid (y4.fin k0)
  clear y4 X3 HM
  go_wp2
  go_end0
  exact R.out
set_option maxHeartbeats 1000000 in
theorem rbody_115 (B g : Nat) (v : Value) (st : List UInt8 × Int) (cs : Array Value) (w : World) (ho : ROutAt w B g v st.1 st.2) (hl : st.1.length ≤ 300000) (c0 : cs[0]? = some (.int .u8 115)) (q : Q3) (c13 : cs[13]? = some (.int .u8 (q.t : Int)) ∧ cs[14]? = some (.int .u32 (q.v : Int)) ∧ cs[15]? = some (.int .u64 (q.p : Int))) (h13 : q.Ok) (x16 : Nat) (c16 : cs[16]? = some (.int .u32 (x16 : Int))) (h16 : x16 < 256 ^ 4) :
    Calls Tryz.prog 22 #[.pointer (some ⟨g, 0, none⟩), .agg cs] w (ROutStep w B g v (rAll st [.qid q, .num 4 x16]).1 (rAll st [.qid q, .num 4 x16]).2) := by
  obtain ⟨W, hW⟩ : ∃ W, W = w.alloc (.cells cs 43) := ⟨_, rfl⟩
  have k0 : Only (fun _ => False) w W := by rw [hW]; exact (Only.refl _ w).alloc _
  have n0 : Has W w.heap.size 43 cs := by rw [hW]; exact Has.new _ _ _
  have X0 := Lib.hid (RC.start (ho.only k0 (fun _ _ h => h)) hl)
  have hnf : ¬ Foot g v w.heap.size := fun h => by have := (ho.foot_lt h).2; omega
  have HM := Lib.hid (fun (w1 : World) (v1 : Value) (st1 : List UInt8 × Int) (n : Nat) (c : RC W B g v st1 n w1 v1) => n0.only c.only hnf)
  have u16 : IntKind.u64.wrap (x16 : Int) = (x16 : Int) := IntWalk.u64_in _ (by omega)
  have d0 := (n0.cell 0).trans c0
  have d13a := (n0.cell 13).trans c13.1
  have d13b := (n0.cell 14).trans c13.2.1
  have d13c := (n0.cell 15).trans c13.2.2
  rw [hW] at d0 d13a d13b d13c
  clear n0
  have HW := Lib.hid hW.symm
  clear hW
  go_enter Tryz.func22, Tryz.ntmps22
  go_wp2_with fail
  rw [HW.out]
  clear HW d0 d13a d13b d13c
  refine (rc_qid X0.out (by omega) q h13).mono ?_
  rintro e w1 ⟨v1, rfl, y1⟩
  have m1 := HM.out _ _ _ _ y1
  have d16 := (m1.cell 16).trans c16
  have X1 := Lib.hid y1
  clear y1 m1 X0
  go_wp2_with fail
  refine (rc_num X1.out (by omega) 4 x16 (by omega) (by omega)).mono ?_
  rintro e w2 ⟨v2, rfl, y2⟩
  have R := Lib.hid (y2.fin k0)
  clear y2 X1 HM
  go_wp2
  go_end0
  exact R.out
set_option maxHeartbeats 1000000 in
theorem rbody_116 (B g : Nat) (v : Value) (st : List UInt8 × Int) (cs : Array Value) (w : World) (ho : ROutAt w B g v st.1 st.2) (hl : st.1.length ≤ 300000) (c0 : cs[0]? = some (.int .u8 116)) (x4 : Nat) (c4 : cs[4]? = some (.int .u32 (x4 : Int))) (h4 : x4 < 256 ^ 4) (x20 : Nat) (c20 : cs[20]? = some (.int .u64 (x20 : Int))) (_h20 : x20 < 256 ^ 8) (x21 : Nat) (c21 : cs[21]? = some (.int .u32 (x21 : Int))) (h21 : x21 < 256 ^ 4) :
    Calls Tryz.prog 22 #[.pointer (some ⟨g, 0, none⟩), .agg cs] w (ROutStep w B g v (rAll st [.num 4 x4, .num 8 x20, .num 4 x21]).1 (rAll st [.num 4 x4, .num 8 x20, .num 4 x21]).2) := by
  obtain ⟨W, hW⟩ : ∃ W, W = w.alloc (.cells cs 43) := ⟨_, rfl⟩
  have k0 : Only (fun _ => False) w W := by rw [hW]; exact (Only.refl _ w).alloc _
  have n0 : Has W w.heap.size 43 cs := by rw [hW]; exact Has.new _ _ _
  have X0 := Lib.hid (RC.start (ho.only k0 (fun _ _ h => h)) hl)
  have hnf : ¬ Foot g v w.heap.size := fun h => by have := (ho.foot_lt h).2; omega
  have HM := Lib.hid (fun (w1 : World) (v1 : Value) (st1 : List UInt8 × Int) (n : Nat) (c : RC W B g v st1 n w1 v1) => n0.only c.only hnf)
  have u4 : IntKind.u64.wrap (x4 : Int) = (x4 : Int) := IntWalk.u64_in _ (by omega)
  have u21 : IntKind.u64.wrap (x21 : Int) = (x21 : Int) := IntWalk.u64_in _ (by omega)
  have d0 := (n0.cell 0).trans c0
  have d4 := (n0.cell 4).trans c4
  rw [hW] at d0 d4
  clear n0
  have HW := Lib.hid hW.symm
  clear hW
  go_enter Tryz.func22, Tryz.ntmps22
  go_wp2_with fail
  rw [HW.out]
  clear HW d0 d4
  refine (rc_num X0.out (by omega) 4 x4 (by omega) (by omega)).mono ?_
  rintro e w1 ⟨v1, rfl, y1⟩
  have m1 := HM.out _ _ _ _ y1
  have d20 := (m1.cell 20).trans c20
  have X1 := Lib.hid y1
  clear y1 m1 X0
  go_wp2_with fail
  refine (rc_num X1.out (by omega) 8 x20 (by omega) (by omega)).mono ?_
  rintro e w2 ⟨v2, rfl, y2⟩
  have m2 := HM.out _ _ _ _ y2
  have d21 := (m2.cell 21).trans c21
  have X2 := Lib.hid y2
  clear y2 m2 X1
  go_wp2_with fail
  refine (rc_num X2.out (by omega) 4 x21 (by omega) (by omega)).mono ?_
  rintro e w3 ⟨v3, rfl, y3⟩
  have R := Lib.hid (y3.fin k0)
  clear y3 X2 HM
  go_wp2
  go_end0
  exact R.out
set_option maxHeartbeats 1000000 in
theorem rbody_119 (B g : Nat) (v : Value) (st : List UInt8 × Int) (cs : Array Value) (w : World) (ho : ROutAt w B g v st.1 st.2) (hl : st.1.length ≤ 300000) (c0 : cs[0]? = some (.int .u8 119)) (x21 : Nat) (c21 : cs[21]? = some (.int .u32 (x21 : Int))) (h21 : x21 < 256 ^ 4) :
    Calls Tryz.prog 22 #[.pointer (some ⟨g, 0, none⟩), .agg cs] w (ROutStep w B g v (rAll st [.num 4 x21]).1 (rAll st [.num 4 x21]).2) := by
  obtain ⟨W, hW⟩ : ∃ W, W = w.alloc (.cells cs 43) := ⟨_, rfl⟩
  have k0 : Only (fun _ => False) w W := by rw [hW]; exact (Only.refl _ w).alloc _
  have n0 : Has W w.heap.size 43 cs := by rw [hW]; exact Has.new _ _ _
  have X0 := Lib.hid (RC.start (ho.only k0 (fun _ _ h => h)) hl)
  have hnf : ¬ Foot g v w.heap.size := fun h => by have := (ho.foot_lt h).2; omega
  have HM := Lib.hid (fun (w1 : World) (v1 : Value) (st1 : List UInt8 × Int) (n : Nat) (c : RC W B g v st1 n w1 v1) => n0.only c.only hnf)
  have u21 : IntKind.u64.wrap (x21 : Int) = (x21 : Int) := IntWalk.u64_in _ (by omega)
  have d0 := (n0.cell 0).trans c0
  have d21 := (n0.cell 21).trans c21
  rw [hW] at d0 d21
  clear n0
  have HW := Lib.hid hW.symm
  clear hW
  go_enter Tryz.func22, Tryz.ntmps22
  go_wp2_with fail
  rw [HW.out]
  clear HW d0 d21
  refine (rc_num X0.out (by omega) 4 x21 (by omega) (by omega)).mono ?_
  rintro e w1 ⟨v1, rfl, y1⟩
  have R := Lib.hid (y1.fin k0)
  clear y1 X0 HM
  go_wp2
  go_end0
  exact R.out
set_option maxHeartbeats 1000000 in
theorem rbody_120 (B g : Nat) (v : Value) (st : List UInt8 × Int) (cs : Array Value) (w : World) (ho : ROutAt w B g v st.1 st.2) (hl : st.1.length ≤ 300000) (c0 : cs[0]? = some (.int .u8 120)) (x4 : Nat) (c4 : cs[4]? = some (.int .u32 (x4 : Int))) (h4 : x4 < 256 ^ 4) :
    Calls Tryz.prog 22 #[.pointer (some ⟨g, 0, none⟩), .agg cs] w (ROutStep w B g v (rAll st [.num 4 x4]).1 (rAll st [.num 4 x4]).2) := by
  obtain ⟨W, hW⟩ : ∃ W, W = w.alloc (.cells cs 43) := ⟨_, rfl⟩
  have k0 : Only (fun _ => False) w W := by rw [hW]; exact (Only.refl _ w).alloc _
  have n0 : Has W w.heap.size 43 cs := by rw [hW]; exact Has.new _ _ _
  have X0 := Lib.hid (RC.start (ho.only k0 (fun _ _ h => h)) hl)
  have hnf : ¬ Foot g v w.heap.size := fun h => by have := (ho.foot_lt h).2; omega
  have HM := Lib.hid (fun (w1 : World) (v1 : Value) (st1 : List UInt8 × Int) (n : Nat) (c : RC W B g v st1 n w1 v1) => n0.only c.only hnf)
  have u4 : IntKind.u64.wrap (x4 : Int) = (x4 : Int) := IntWalk.u64_in _ (by omega)
  have d0 := (n0.cell 0).trans c0
  have d4 := (n0.cell 4).trans c4
  rw [hW] at d0 d4
  clear n0
  have HW := Lib.hid hW.symm
  clear hW
  go_enter Tryz.func22, Tryz.ntmps22
  go_wp2_with fail
  rw [HW.out]
  clear HW d0 d4
  refine (rc_num X0.out (by omega) 4 x4 (by omega) (by omega)).mono ?_
  rintro e w1 ⟨v1, rfl, y1⟩
  have R := Lib.hid (y1.fin k0)
  clear y1 X0 HM
  go_wp2
  go_end0
  exact R.out
set_option maxHeartbeats 1000000 in
theorem rbody_122 (B g : Nat) (v : Value) (st : List UInt8 × Int) (cs : Array Value) (w : World) (ho : ROutAt w B g v st.1 st.2) (hl : st.1.length ≤ 300000) (c0 : cs[0]? = some (.int .u8 122)) (x4 : Nat) (c4 : cs[4]? = some (.int .u32 (x4 : Int))) (h4 : x4 < 256 ^ 4) :
    Calls Tryz.prog 22 #[.pointer (some ⟨g, 0, none⟩), .agg cs] w (ROutStep w B g v (rAll st [.num 4 x4]).1 (rAll st [.num 4 x4]).2) := by
  obtain ⟨W, hW⟩ : ∃ W, W = w.alloc (.cells cs 43) := ⟨_, rfl⟩
  have k0 : Only (fun _ => False) w W := by rw [hW]; exact (Only.refl _ w).alloc _
  have n0 : Has W w.heap.size 43 cs := by rw [hW]; exact Has.new _ _ _
  have X0 := Lib.hid (RC.start (ho.only k0 (fun _ _ h => h)) hl)
  have hnf : ¬ Foot g v w.heap.size := fun h => by have := (ho.foot_lt h).2; omega
  have HM := Lib.hid (fun (w1 : World) (v1 : Value) (st1 : List UInt8 × Int) (n : Nat) (c : RC W B g v st1 n w1 v1) => n0.only c.only hnf)
  have u4 : IntKind.u64.wrap (x4 : Int) = (x4 : Int) := IntWalk.u64_in _ (by omega)
  have d0 := (n0.cell 0).trans c0
  have d4 := (n0.cell 4).trans c4
  rw [hW] at d0 d4
  clear n0
  have HW := Lib.hid hW.symm
  clear hW
  go_enter Tryz.func22, Tryz.ntmps22
  go_wp2_with fail
  rw [HW.out]
  clear HW d0 d4
  refine (rc_num X0.out (by omega) 4 x4 (by omega) (by omega)).mono ?_
  rintro e w1 ⟨v1, rfl, y1⟩
  have R := Lib.hid (y1.fin k0)
  clear y1 X0 HM
  go_wp2
  go_end0
  exact R.out
set_option maxHeartbeats 1000000 in
theorem rbody_124 (B g : Nat) (v : Value) (st : List UInt8 × Int) (cs : Array Value) (w : World) (ho : ROutAt w B g v st.1 st.2) (hl : st.1.length ≤ 300000) (c0 : cs[0]? = some (.int .u8 124)) (x4 : Nat) (c4 : cs[4]? = some (.int .u32 (x4 : Int))) (h4 : x4 < 256 ^ 4) :
    Calls Tryz.prog 22 #[.pointer (some ⟨g, 0, none⟩), .agg cs] w (ROutStep w B g v (rAll st [.num 4 x4]).1 (rAll st [.num 4 x4]).2) := by
  obtain ⟨W, hW⟩ : ∃ W, W = w.alloc (.cells cs 43) := ⟨_, rfl⟩
  have k0 : Only (fun _ => False) w W := by rw [hW]; exact (Only.refl _ w).alloc _
  have n0 : Has W w.heap.size 43 cs := by rw [hW]; exact Has.new _ _ _
  have X0 := Lib.hid (RC.start (ho.only k0 (fun _ _ h => h)) hl)
  have hnf : ¬ Foot g v w.heap.size := fun h => by have := (ho.foot_lt h).2; omega
  have HM := Lib.hid (fun (w1 : World) (v1 : Value) (st1 : List UInt8 × Int) (n : Nat) (c : RC W B g v st1 n w1 v1) => n0.only c.only hnf)
  have u4 : IntKind.u64.wrap (x4 : Int) = (x4 : Int) := IntWalk.u64_in _ (by omega)
  have d0 := (n0.cell 0).trans c0
  have d4 := (n0.cell 4).trans c4
  rw [hW] at d0 d4
  clear n0
  have HW := Lib.hid hW.symm
  clear hW
  go_enter Tryz.func22, Tryz.ntmps22
  go_wp2_with fail
  rw [HW.out]
  clear HW d0 d4
  refine (rc_num X0.out (by omega) 4 x4 (by omega) (by omega)).mono ?_
  rintro e w1 ⟨v1, rfl, y1⟩
  have R := Lib.hid (y1.fin k0)
  clear y1 X0 HM
  go_wp2
  go_end0
  exact R.out
set_option maxHeartbeats 1000000 in
theorem rbody_125 (B g : Nat) (v : Value) (st : List UInt8 × Int) (cs : Array Value) (w : World) (ho : ROutAt w B g v st.1 st.2) (hl : st.1.length ≤ 300000) (c0 : cs[0]? = some (.int .u8 125)) (s : S11) (c23 : ∀ j, j < 13 → cs[23 + j]? = s.cells[j]?) (h23 : s.Num ∧ s.Few) :
    Calls Tryz.prog 22 #[.pointer (some ⟨g, 0, none⟩), .agg cs] w (ROutStep w B g v (rAll st [.stat s]).1 (rAll st [.stat s]).2) := by
  obtain ⟨W, hW⟩ : ∃ W, W = w.alloc (.cells cs 43) := ⟨_, rfl⟩
  have k0 : Only (fun _ => False) w W := by rw [hW]; exact (Only.refl _ w).alloc _
  have n0 : Has W w.heap.size 43 cs := by rw [hW]; exact Has.new _ _ _
  have X0 := Lib.hid (RC.start (ho.only k0 (fun _ _ h => h)) hl)
  have hnf : ¬ Foot g v w.heap.size := fun h => by have := (ho.foot_lt h).2; omega
  have HM := Lib.hid (fun (w1 : World) (v1 : Value) (st1 : List UInt8 × Int) (n : Nat) (c : RC W B g v st1 n w1 v1) => n0.only c.only hnf)
  have d0 := (n0.cell 0).trans c0
  have d23_0 : W.cell? ⟨w.heap.size, 23, none⟩ = some (.int .u16 (s.k : Int)) := (n0.cell 23).trans (c23 0 (by omega))
  have d23_1 : W.cell? ⟨w.heap.size, 24, none⟩ = some (.int .u32 (s.d : Int)) := (n0.cell 24).trans (c23 1 (by omega))
  have d23_2 : W.cell? ⟨w.heap.size, 25, none⟩ = some (.int .u8 (s.q.t : Int)) := (n0.cell 25).trans (c23 2 (by omega))
  have d23_3 : W.cell? ⟨w.heap.size, 26, none⟩ = some (.int .u32 (s.q.v : Int)) := (n0.cell 26).trans (c23 3 (by omega))
  have d23_4 : W.cell? ⟨w.heap.size, 27, none⟩ = some (.int .u64 (s.q.p : Int)) := (n0.cell 27).trans (c23 4 (by omega))
  have d23_5 : W.cell? ⟨w.heap.size, 28, none⟩ = some (.int .u32 (s.m : Int)) := (n0.cell 28).trans (c23 5 (by omega))
  have d23_6 : W.cell? ⟨w.heap.size, 29, none⟩ = some (.int .u32 (s.a : Int)) := (n0.cell 29).trans (c23 6 (by omega))
  have d23_7 : W.cell? ⟨w.heap.size, 30, none⟩ = some (.int .u32 (s.c : Int)) := (n0.cell 30).trans (c23 7 (by omega))
  have d23_8 : W.cell? ⟨w.heap.size, 31, none⟩ = some (.int .u64 (s.l : Int)) := (n0.cell 31).trans (c23 8 (by omega))
  have d23_9 : W.cell? ⟨w.heap.size, 32, none⟩ = some (.string (strOf s.n)) := (n0.cell 32).trans (c23 9 (by omega))
  have d23_10 : W.cell? ⟨w.heap.size, 33, none⟩ = some (.string (strOf s.u)) := (n0.cell 33).trans (c23 10 (by omega))
  have d23_11 : W.cell? ⟨w.heap.size, 34, none⟩ = some (.string (strOf s.g)) := (n0.cell 34).trans (c23 11 (by omega))
  have d23_12 : W.cell? ⟨w.heap.size, 35, none⟩ = some (.string (strOf s.x)) := (n0.cell 35).trans (c23 12 (by omega))
  rw [hW] at d0 d23_0 d23_1 d23_2 d23_3 d23_4 d23_5 d23_6 d23_7 d23_8 d23_9 d23_10 d23_11 d23_12
  clear n0
  have HW := Lib.hid hW.symm
  clear hW
  go_enter Tryz.func22, Tryz.ntmps22
  go_wp2_with fail
  rw [HW.out]
  clear HW d0 d23_0 d23_1 d23_2 d23_3 d23_4 d23_5 d23_6 d23_7 d23_8 d23_9 d23_10 d23_11 d23_12
  have C0 := rc_stat X0.out (by omega) s h23.1 h23.2
  unfold S11.val S11.cells at C0
  refine C0.mono ?_
  rintro e w1 ⟨v1, rfl, y1⟩
  have R := Lib.hid (y1.fin k0)
  clear y1 X0 HM
  go_wp2
  go_end0
  exact R.out
set_option maxHeartbeats 1000000 in
theorem rbody_126 (B g : Nat) (v : Value) (st : List UInt8 × Int) (cs : Array Value) (w : World) (ho : ROutAt w B g v st.1 st.2) (hl : st.1.length ≤ 300000) (c0 : cs[0]? = some (.int .u8 126)) (x4 : Nat) (c4 : cs[4]? = some (.int .u32 (x4 : Int))) (h4 : x4 < 256 ^ 4) (s : S11) (c23 : ∀ j, j < 13 → cs[23 + j]? = s.cells[j]?) (h23 : s.Num ∧ s.Few) :
    Calls Tryz.prog 22 #[.pointer (some ⟨g, 0, none⟩), .agg cs] w (ROutStep w B g v (rAll st [.num 4 x4, .stat s]).1 (rAll st [.num 4 x4, .stat s]).2) := by
  obtain ⟨W, hW⟩ : ∃ W, W = w.alloc (.cells cs 43) := ⟨_, rfl⟩
  have k0 : Only (fun _ => False) w W := by rw [hW]; exact (Only.refl _ w).alloc _
  have n0 : Has W w.heap.size 43 cs := by rw [hW]; exact Has.new _ _ _
  have X0 := Lib.hid (RC.start (ho.only k0 (fun _ _ h => h)) hl)
  have hnf : ¬ Foot g v w.heap.size := fun h => by have := (ho.foot_lt h).2; omega
  have HM := Lib.hid (fun (w1 : World) (v1 : Value) (st1 : List UInt8 × Int) (n : Nat) (c : RC W B g v st1 n w1 v1) => n0.only c.only hnf)
  have u4 : IntKind.u64.wrap (x4 : Int) = (x4 : Int) := IntWalk.u64_in _ (by omega)
  have d0 := (n0.cell 0).trans c0
  have d4 := (n0.cell 4).trans c4
  rw [hW] at d0 d4
  clear n0
  have HW := Lib.hid hW.symm
  clear hW
  go_enter Tryz.func22, Tryz.ntmps22
  go_wp2_with fail
  rw [HW.out]
  clear HW d0 d4
  refine (rc_num X0.out (by omega) 4 x4 (by omega) (by omega)).mono ?_
  rintro e w1 ⟨v1, rfl, y1⟩
  have m1 := HM.out _ _ _ _ y1
  have d23_0 : w1.cell? ⟨w.heap.size, 23, none⟩ = some (.int .u16 (s.k : Int)) := (m1.cell 23).trans (c23 0 (by omega))
  have d23_1 : w1.cell? ⟨w.heap.size, 24, none⟩ = some (.int .u32 (s.d : Int)) := (m1.cell 24).trans (c23 1 (by omega))
  have d23_2 : w1.cell? ⟨w.heap.size, 25, none⟩ = some (.int .u8 (s.q.t : Int)) := (m1.cell 25).trans (c23 2 (by omega))
  have d23_3 : w1.cell? ⟨w.heap.size, 26, none⟩ = some (.int .u32 (s.q.v : Int)) := (m1.cell 26).trans (c23 3 (by omega))
  have d23_4 : w1.cell? ⟨w.heap.size, 27, none⟩ = some (.int .u64 (s.q.p : Int)) := (m1.cell 27).trans (c23 4 (by omega))
  have d23_5 : w1.cell? ⟨w.heap.size, 28, none⟩ = some (.int .u32 (s.m : Int)) := (m1.cell 28).trans (c23 5 (by omega))
  have d23_6 : w1.cell? ⟨w.heap.size, 29, none⟩ = some (.int .u32 (s.a : Int)) := (m1.cell 29).trans (c23 6 (by omega))
  have d23_7 : w1.cell? ⟨w.heap.size, 30, none⟩ = some (.int .u32 (s.c : Int)) := (m1.cell 30).trans (c23 7 (by omega))
  have d23_8 : w1.cell? ⟨w.heap.size, 31, none⟩ = some (.int .u64 (s.l : Int)) := (m1.cell 31).trans (c23 8 (by omega))
  have d23_9 : w1.cell? ⟨w.heap.size, 32, none⟩ = some (.string (strOf s.n)) := (m1.cell 32).trans (c23 9 (by omega))
  have d23_10 : w1.cell? ⟨w.heap.size, 33, none⟩ = some (.string (strOf s.u)) := (m1.cell 33).trans (c23 10 (by omega))
  have d23_11 : w1.cell? ⟨w.heap.size, 34, none⟩ = some (.string (strOf s.g)) := (m1.cell 34).trans (c23 11 (by omega))
  have d23_12 : w1.cell? ⟨w.heap.size, 35, none⟩ = some (.string (strOf s.x)) := (m1.cell 35).trans (c23 12 (by omega))
  have X1 := Lib.hid y1
  clear y1 m1 X0
  go_wp2_with fail
  have C1 := rc_stat X1.out (by omega) s h23.1 h23.2
  unfold S11.val S11.cells at C1
  refine C1.mono ?_
  rintro e w2 ⟨v2, rfl, y2⟩
  have R := Lib.hid (y2.fin k0)
  clear y2 X1 HM
  go_wp2
  go_end0
  exact R.out
set_option maxHeartbeats 1000000 in
theorem rbody_no (B g t : Nat) (v : Value) (st : List UInt8 × Int) (cs : Array Value) (w : World) (ho : ROutAt w B g v st.1 st.2) (c0 : cs[0]? = some (.int .u8 (t : Int))) (ht : t < 100 ∨ 126 < t ∨ t = 106 ∨ t = 109 ∨ t = 121 ∨ t = 123) :
    Calls Tryz.prog 22 #[.pointer (some ⟨g, 0, none⟩), .agg cs] w (ROutStep w B g v st.1 st.2) := by
  have R := Lib.hid (RC.fin (RC.start (n := st.1.length) (ho.only ((Only.refl (fun _ => False) w).alloc (.cells cs 43)) (fun _ _ h => h)) (Nat.le_refl _)) ((Only.refl (fun _ => False) w).alloc (.cells cs 43)))
  have d0 := ((Has.new w 43 cs).cell 0).trans c0
  have e100 : ((t : Int) == 100) = false := by simp; omega
  have e101 : ((t : Int) == 101) = false := by simp; omega
  have e102 : ((t : Int) == 102) = false := by simp; omega
  have e103 : ((t : Int) == 103) = false := by simp; omega
  have e104 : ((t : Int) == 104) = false := by simp; omega
  have e105 : ((t : Int) == 105) = false := by simp; omega
  have e107 : ((t : Int) == 107) = false := by simp; omega
  have e108 : ((t : Int) == 108) = false := by simp; omega
  have e110 : ((t : Int) == 110) = false := by simp; omega
  have e111 : ((t : Int) == 111) = false := by simp; omega
  have e112 : ((t : Int) == 112) = false := by simp; omega
  have e113 : ((t : Int) == 113) = false := by simp; omega
  have e114 : ((t : Int) == 114) = false := by simp; omega
  have e115 : ((t : Int) == 115) = false := by simp; omega
  have e116 : ((t : Int) == 116) = false := by simp; omega
  have e117 : ((t : Int) == 117) = false := by simp; omega
  have e118 : ((t : Int) == 118) = false := by simp; omega
  have e119 : ((t : Int) == 119) = false := by simp; omega
  have e120 : ((t : Int) == 120) = false := by simp; omega
  have e122 : ((t : Int) == 122) = false := by simp; omega
  have e124 : ((t : Int) == 124) = false := by simp; omega
  have e125 : ((t : Int) == 125) = false := by simp; omega
  have e126 : ((t : Int) == 126) = false := by simp; omega
  clear ho c0 ht
  go_enter Tryz.func22, Tryz.ntmps22
  go_wp2
  go_end0
  exact R.out
end Go.Proofs.YtepiifbleoimkaaGreatDoor
