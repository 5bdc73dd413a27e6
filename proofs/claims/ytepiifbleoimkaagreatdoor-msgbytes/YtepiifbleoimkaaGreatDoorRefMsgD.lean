/-
  The second reading's body: data.
-/
import Derived.Test.YtepiifbleoimkaaGreatDoorRefMsgC
namespace Go.Proofs.YtepiifbleoimkaaGreatDoor
open Go.RowKit
open Go.Lib
set_option maxRecDepth 100000

section
variable {P : Program} (w : World)
theorem run_append_text (base : Nat) (t u ty e : TypeId) (i : TypeInfo) (ht : P.underlying t = some (.slice e)) (hu : P.underlying u = some .string) (hi : P.info? e = some i) (hz : i.zero = some (.int .u8 0))
    (hsize : i.size = 1) (hby : i.bytes = 1) (v : Value) (xs bs : List UInt8) (hown : w.ownsRow base e 1 v xs.length (b8s xs)) (hpos : 0 < xs.length) (hlen : (xs ++ bs).length ≤ 140737488355328) (hbase : base ≤ w.heap.size) :
    ∃ v' w', (Builtin.append_ #[t, u] ty #[v, .string (strOf bs)]).run P w = .ok v' w' ∧ w'.ownsRow base e 1 v' (xs ++ bs).length (b8s (xs ++ bs)) ∧ w.grownBy w' v.ownBlock ∧
      (v'.ownBlock = v.ownBlock ∨ v'.ownBlock = some w.heap.size) := by
  have hsz : (strOf bs).size = bs.length := strOf_size bs
  have hl : (xs ++ bs).length = xs.length + bs.length := List.length_append
  have hxl : (b8s xs).length = xs.length := b8s_length xs
  obtain ⟨v', w', hr, h2, h3, _⟩ := run_append_own_string (P := P) w base t u ty e i ht hu hi hz hsize hby v xs.length (b8s xs) hown (strOf bs) (by rw [hsz]; simp only [maxLen]; omega) (by omega) hbase
  refine ⟨v', w', hr, ?_, h3, ?_⟩
  · rw [hl, b8s_append, ← strCells_of bs, ← hsz]
    exact h2
  · rcases hown.2 with ⟨rfl, h0⟩ | ⟨g, cap, cur, rfl, hbg, hg, hnc, hcm, hcs, htake⟩
    · omega
    · by_cases hroom : xs.length + (strOf bs).size ≤ cap
      · have hcs' : cur.size = cap := by simpa using hcs
        have hr2 := run_append_room_string (P := P) w t u ty e i ht hu hi hsize g xs.length cap cur hg (strOf bs) hroom (by omega)
        rw [hr] at hr2
        injection hr2 with a b
        exact .inl (by rw [a]; rfl)
      · have hr2 := run_append_grow_string (P := P) w t u ty e i (.int .u8 0) ht hu hi hz ⟨g, 0, none⟩ xs.length cap (b8s xs) (by rw [hsize]; omega) (hown.cells (g := g) rfl) (strOf bs) (by omega) (by omega) (by rw [hby]; exact growslice_fits (by omega) (by omega))
        rw [hr] at hr2
        injection hr2 with a b
        exact .inr (by rw [a]; rfl)

theorem step_append_text {ops : Array Oper} {o : Oper} {a : Act} {K : Act → World → Prop} {Q : Exit → Act → World → Prop} {E : Prop} (hgd : o.guard = none) (s x : Operand) (t u : TypeId)
    (ho : o.op = .call { callee := .builtin .append, args := #[s, x], argTypes := #[t, u] })
    (base : Nat) (e : TypeId) (i : TypeInfo) (ht : P.underlying t = some (.slice e)) (hu : P.underlying u = some .string) (hi : P.info? e = some i) (hz : i.zero = some (.int .u8 0))
    (hsize : i.size = 1) (hby : i.bytes = 1) (v : Value) (xs bs : List UInt8) (hs : a.eval s = v) (hown : w.ownsRow base e 1 v xs.length (b8s xs)) (hpos : 0 < xs.length)
    (hx : a.eval x = .string (strOf bs)) (hlen : (xs ++ bs).length ≤ 140737488355328) (hbase : base ≤ w.heap.size)
    (h : ∀ v' w', w'.ownsRow base e 1 v' (xs ++ bs).length (b8s (xs ++ bs)) → w.grownBy w' v.ownBlock → (v'.ownBlock = v.ownBlock ∨ v'.ownBlock = some w.heap.size) → K (a.put o.dst v') w') :
    if Region.wanted o (yielded ops a.tmps) = true then Oper.wp P o a w K Q else E := by
  have hw : Region.wanted o (yielded ops a.tmps) = true := by simp [Region.wanted, hgd]
  rw [if_pos hw]
  obtain ⟨v', w', hr, h2, h3, h4⟩ := run_append_text (P := P) w base t u o.type e i ht hu hi hz hsize hby v xs bs hown hpos hlen hbase
  unfold Oper.wp execOp
  simp only [ho, resolve, invoke, builtin, Sem.run_bind, Sem.run_pure, Result.andThen_ok, List.map_toArray, List.map_cons, List.map_nil, hs, hx, hr]
  exact h v' w' h2 h3 h4
end
set_option maxHeartbeats 1000000 in
theorem rbody_117 (B g : Nat) (v : Value) (st : List UInt8 × Int) (cs : Array Value) (w : World) (ho : ROutAt w B g v st.1 st.2) (hl : st.1.length ≤ 300000) (c0 : cs[0]? = some (.int .u8 117)) (l : List UInt8) (c22 : cs[22]? = some (.string (strOf l))) (h22 : l.length ≤ 100000) :
    Calls Tryz.prog 22 #[.pointer (some ⟨g, 0, none⟩), .agg cs] w (ROutStep w B g v (rAll st [.data l]).1 (rAll st [.data l]).2) := by
  obtain ⟨i0, hi0, hz0, hz1, hz2⟩ := info_parts Tryz.info8
  obtain ⟨W, hW⟩ : ∃ W, W = w.alloc (.cells cs 43) := ⟨_, rfl⟩
  have k0 : Only (fun _ => False) w W := by rw [hW]; exact (Only.refl _ w).alloc _
  have n0 : Has W w.heap.size 43 cs := by rw [hW]; exact Has.new _ _ _
  have X0 := Lib.hid (RC.start (ho.only k0 (fun _ _ h => h)) hl)
  have hnf : ¬ Foot g v w.heap.size := fun h => by have := (ho.foot_lt h).2; omega
  have HM := Lib.hid (fun (w1 : World) (v1 : Value) (st1 : List UInt8 × Int) (n : Nat) (c : RC W B g v st1 n w1 v1) => n0.only c.only hnf)
  have hsz : (strOf l).size = l.length := strOf_size l
  have uL : IntKind.u64.wrap (l.length : Int) = (l.length : Int) := IntWalk.u64_in _ (by omega)
  have d0 := (n0.cell 0).trans c0
  have d22 := (n0.cell 22).trans c22
  rw [hW] at d0 d22
  clear n0
  have HW := Lib.hid hW.symm
  clear hW
  go_enter Tryz.func22, Tryz.ntmps22
  go_wp2_with fail
  rw [HW.out]
  clear HW d0 d22
  refine (rc_num X0.out (by omega) 4 l.length (by omega) (by omega)).mono ?_
  rintro e w1 ⟨v1, rfl, y1⟩
  have m1 := HM.out _ _ _ _ y1
  have d22 := (m1.cell 22).trans c22
  have hg1 : w1.cell? ⟨g, 0, none⟩ = some v1 := by have := y1.out.has.cell 0; simpa using this
  have o2 : ROutAt w1.drew B g v1 _ _ := y1.out.only ((Only.refl (fun _ => False) w1).drew) (fun _ _ h => h)
  have hb2 : B ≤ w1.drew.heap.size := o2.sizeW
  have hlen := y1.len
  have HG := Lib.hid (fun (w3 : World) (v' : Value) a b c => rout_grown (w1 := w1.drew) (w2 := w3) (v' := v') (bs' := (rAdd st (.num 4 l.length)).1 ++ l) o2 (Only.refl _ _) a b c)
  have HP : Hid (0 < (rAdd st (.num 4 l.length)).1.length) := Lib.hid (by show 0 < (st.1 ++ putB 4 l.length).length; rw [List.length_append, putB_length]; omega)
  have HF : Hid (∀ w3, ROutStep w1.drew B g v1 ((rAdd st (.num 4 l.length)).1 ++ l) (rAdd st (.num 4 l.length)).2 (.returned (.tuple #[])) w3 → ROutStep w B g v (rAll st [.data l]).1 (rAll st [.data l]).2 (.returned (.tuple #[])) w3) := by
    intro w3 r
    have r1 := ROutStep.next y1.only.drew y1.own r
    have r2 := ROutStep.next (v := v) (k0.mono (fun _ _ h => h.elim)) (fun i hi => .inl hi) r1
    have e1 : (rAdd st (.num 4 l.length)).1 ++ l = (rAll st [.data l]).1 := by
      show (st.1 ++ putB 4 l.length) ++ l = st.1 ++ (putB 4 l.length ++ l)
      rw [List.append_assoc]
    rw [e1] at r2
    exact r2
  have O2 := Lib.hid o2.own
  generalize (rAdd st (.num 4 l.length)).1 = ys at HG HP HF O2 hlen
  generalize (rAdd st (.num 4 l.length)).2 = bd at HG HF
  obtain ⟨A, c, hve, _⟩ := owns_slice O2.out
  clear y1 m1 o2 X0 HM
  subst hve
  go_wp2_with fail
  go_region_law (first
    | (refine step_append_text _ (by rfl) _ _ _ _ (by rfl) B 5 i0 Tryz.underlying22 Tryz.underlying9 hi0 hz0 hz1 hz2 _ ys l (by rfl) O2.out HP.out (by rfl) (by rw [List.length_append]; omega) hb2 ?_; intro v3 w3 a3 g3 e3; obtain ⟨n3, r3⟩ := HG.out w3 v3 a3 g3 e3; have hc3 : w3.cell? ⟨g, 0, none⟩ = _ := n3.cell 0; have hf3 := n3.frozen 0; have r4 := HF.out _ r3; obtain ⟨A3, x3, rfl, _⟩ := owns_slice a3; have R := Lib.hid r4; clear a3 g3 e3 n3 r3 r4)
    | fail)
  all_goals
    go_wp2
    go_end0
    rw [← List.length_append]
    exact R.out
set_option maxHeartbeats 1000000 in
theorem rbody_118 (B g : Nat) (v : Value) (st : List UInt8 × Int) (cs : Array Value) (w : World) (ho : ROutAt w B g v st.1 st.2) (hl : st.1.length ≤ 300000) (c0 : cs[0]? = some (.int .u8 118)) (x4 : Nat) (c4 : cs[4]? = some (.int .u32 (x4 : Int))) (h4 : x4 < 256 ^ 4) (x20 : Nat) (c20 : cs[20]? = some (.int .u64 (x20 : Int))) (l : List UInt8) (c22 : cs[22]? = some (.string (strOf l))) (h22 : l.length ≤ 100000) :
    Calls Tryz.prog 22 #[.pointer (some ⟨g, 0, none⟩), .agg cs] w (ROutStep w B g v (rAll st [.num 4 x4, .num 8 x20, .data l]).1 (rAll st [.num 4 x4, .num 8 x20, .data l]).2) := by
  obtain ⟨i0, hi0, hz0, hz1, hz2⟩ := info_parts Tryz.info8
  obtain ⟨W, hW⟩ : ∃ W, W = w.alloc (.cells cs 43) := ⟨_, rfl⟩
  have k0 : Only (fun _ => False) w W := by rw [hW]; exact (Only.refl _ w).alloc _
  have n0 : Has W w.heap.size 43 cs := by rw [hW]; exact Has.new _ _ _
  have X0 := Lib.hid (RC.start (ho.only k0 (fun _ _ h => h)) hl)
  have hnf : ¬ Foot g v w.heap.size := fun h => by have := (ho.foot_lt h).2; omega
  have HM := Lib.hid (fun (w1 : World) (v1 : Value) (st1 : List UInt8 × Int) (n : Nat) (c : RC W B g v st1 n w1 v1) => n0.only c.only hnf)
  have hsz : (strOf l).size = l.length := strOf_size l
  have uL : IntKind.u64.wrap (l.length : Int) = (l.length : Int) := IntWalk.u64_in _ (by omega)
  have u4 : IntKind.u64.wrap (x4 : Int) = (x4 : Int) := IntWalk.u64_in _ (by omega)
  have d0 := (n0.cell 0).trans c0
  have d4 := (n0.cell 4).trans c4
  rw [hW] at d0 d4
  clear n0
  have HW := Lib.hid hW.symm
  clear hW
  go_enter Tryz.func22, Tryz.ntmps22
  go_wp2_with fail
  rw [HW.out]
  clear HW d0 d4
  refine (rc_num X0.out (by omega) 4 x4 (by omega) (by omega)).mono ?_
  rintro e w1 ⟨v1, rfl, y1⟩
  have m1 := HM.out _ _ _ _ y1
  have d20 := (m1.cell 20).trans c20
  have X1 := Lib.hid y1
  clear y1 m1 X0
  go_wp2_with fail
  refine (rc_num X1.out (by omega) 8 x20 (by omega) (by omega)).mono ?_
  rintro e w2 ⟨v2, rfl, y2⟩
  have m2 := HM.out _ _ _ _ y2
  have d22 := (m2.cell 22).trans c22
  have X2 := Lib.hid y2
  clear y2 m2 X1 d20
  go_wp2_with fail
  refine (rc_num X2.out (by omega) 4 l.length (by omega) (by omega)).mono ?_
  rintro e w3' ⟨v3', rfl, y3'⟩
  have m3' := HM.out _ _ _ _ y3'
  have d22 := (m3'.cell 22).trans c22
  have hg3' : w3'.cell? ⟨g, 0, none⟩ = some v3' := by have := y3'.out.has.cell 0; simpa using this
  have o2 : ROutAt w3'.drew B g v3' _ _ := y3'.out.only ((Only.refl (fun _ => False) w3').drew) (fun _ _ h => h)
  have hb2 : B ≤ w3'.drew.heap.size := o2.sizeW
  have hlen := y3'.len
  have HG := Lib.hid (fun (w3 : World) (v' : Value) a b c => rout_grown (w1 := w3'.drew) (w2 := w3) (v' := v') (bs' := (rAdd (rAdd (rAdd st (.num 4 x4)) (.num 8 x20)) (.num 4 l.length)).1 ++ l) o2 (Only.refl _ _) a b c)
  have HP : Hid (0 < (rAdd (rAdd (rAdd st (.num 4 x4)) (.num 8 x20)) (.num 4 l.length)).1.length) := Lib.hid (by show 0 < ((rAdd (rAdd st (.num 4 x4)) (.num 8 x20)).1 ++ putB 4 l.length).length; rw [List.length_append, putB_length]; omega)
  have HF : Hid (∀ w3, ROutStep w3'.drew B g v3' ((rAdd (rAdd (rAdd st (.num 4 x4)) (.num 8 x20)) (.num 4 l.length)).1 ++ l) (rAdd (rAdd (rAdd st (.num 4 x4)) (.num 8 x20)) (.num 4 l.length)).2 (.returned (.tuple #[])) w3 → ROutStep w B g v (rAll st [.num 4 x4, .num 8 x20, .data l]).1 (rAll st [.num 4 x4, .num 8 x20, .data l]).2 (.returned (.tuple #[])) w3) := by
    intro w3 r
    have r1 := ROutStep.next y3'.only.drew y3'.own r
    have r2 := ROutStep.next (v := v) (k0.mono (fun _ _ h => h.elim)) (fun i hi => .inl hi) r1
    have e1 : (rAdd (rAdd (rAdd st (.num 4 x4)) (.num 8 x20)) (.num 4 l.length)).1 ++ l = (rAll st [.num 4 x4, .num 8 x20, .data l]).1 := by
      show ((rAdd (rAdd st (.num 4 x4)) (.num 8 x20)).1 ++ putB 4 l.length) ++ l = (rAdd (rAdd st (.num 4 x4)) (.num 8 x20)).1 ++ (putB 4 l.length ++ l)
      rw [List.append_assoc]
    rw [e1] at r2
    exact r2
  have O2 := Lib.hid o2.own
  generalize (rAdd (rAdd (rAdd st (.num 4 x4)) (.num 8 x20)) (.num 4 l.length)).1 = ys at HG HP HF O2 hlen
  generalize (rAdd (rAdd (rAdd st (.num 4 x4)) (.num 8 x20)) (.num 4 l.length)).2 = bd at HG HF
  obtain ⟨A, c, hve, _⟩ := owns_slice O2.out
  clear y3' m3' o2 X2 HM
  subst hve
  go_wp2_with fail
  go_region_law (first
    | (refine step_append_text _ (by rfl) _ _ _ _ (by rfl) B 5 i0 Tryz.underlying22 Tryz.underlying9 hi0 hz0 hz1 hz2 _ ys l (by rfl) O2.out HP.out (by rfl) (by rw [List.length_append]; omega) hb2 ?_; intro v3 w3 a3 g3 e3; obtain ⟨n3, r3⟩ := HG.out w3 v3 a3 g3 e3; have hc3 : w3.cell? ⟨g, 0, none⟩ = _ := n3.cell 0; have hf3 := n3.frozen 0; have r4 := HF.out _ r3; obtain ⟨A3, x3, rfl, _⟩ := owns_slice a3; have R := Lib.hid r4; clear a3 g3 e3 n3 r3 r4)
    | fail)
  all_goals
    go_wp2
    go_end0
    rw [← List.length_append]
    exact R.out
end Go.Proofs.YtepiifbleoimkaaGreatDoor
