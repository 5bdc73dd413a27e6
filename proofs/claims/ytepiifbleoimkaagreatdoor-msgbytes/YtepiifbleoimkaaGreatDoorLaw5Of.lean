/-
  Layer 5's Of: a message as the second reading's.
-/
import Derived.Test.YtepiifbleoimkaaGreatDoorRefMsgK
namespace Go.Proofs.YtepiifbleoimkaaGreatDoor
open Go.RowKit
set_option maxRecDepth 100000

/-- What a field holds. -/
def F.n : F → Nat
  | .num _ x => x
  | _ => 0
def F.t : F → List UInt8
  | .text l => l
  | _ => []
def F.d : F → List UInt8
  | .data b => b
  | _ => []
def F.q : F → Q3
  | .qid q => q
  | _ => Q3.zero
def F.qs : F → List Q3
  | .qids Q => Q
  | _ => []
def F.s : F → S11
  | .stat s => s
  | _ => S11.zero
theorem is_num {f : F} {n : Nat} (h : f.kind = .num n) : f = .num n f.n := by obtain ⟨x, rfl⟩ := kind_num h; rfl
theorem is_text {f : F} (h : f.kind = .text) : f = .text f.t := by obtain ⟨x, rfl⟩ := kind_text h; rfl
theorem is_data {f : F} (h : f.kind = .data) : f = .data f.d := by obtain ⟨x, rfl⟩ := kind_data h; rfl
theorem is_qid {f : F} (h : f.kind = .qid) : f = .qid f.q := by obtain ⟨x, rfl⟩ := kind_qid h; rfl
theorem is_qids {f : F} (h : f.kind = .qids) : f = .qids f.qs := by obtain ⟨x, rfl⟩ := kind_qids h; rfl
theorem is_stat {f : F} (h : f.kind = .stat) : f = .stat f.s := by obtain ⟨x, rfl⟩ := kind_stat h; rfl
/-- The second reading's cells of a message. -/
def ofLit (m : Nat → F) (v11 v12 : Value) : Array Value := #[.int .u8 ((m 0).n : Int), .int .u16 ((m 1).n : Int), .int .u32 ((m 2).n : Int), .string (strOf (m 3).t), .int .u32 ((m 4).n : Int), .int .u32 ((m 5).n : Int), .int .u32 ((m 6).n : Int), .string (strOf (m 7).t), .string (strOf (m 8).t), .string (strOf (m 9).t), .int .u16 ((m 10).n : Int), v11, v12, .int .u8 ((m 13).q.t : Int), .int .u32 ((m 13).q.v : Int), .int .u64 ((m 13).q.p : Int), .int .u32 ((m 16).n : Int), .int .u8 ((m 17).n : Int), .int .u32 ((m 18).n : Int), .string (strOf (m 19).t), .int .u64 ((m 20).n : Int), .int .u32 ((m 21).n : Int), .string (strOf (m 22).d), .int .u16 ((m 23).s.k : Int), .int .u32 ((m 23).s.d : Int), .int .u8 ((m 23).s.q.t : Int), .int .u32 ((m 23).s.q.v : Int), .int .u64 ((m 23).s.q.p : Int), .int .u32 ((m 23).s.m : Int), .int .u32 ((m 23).s.a : Int), .int .u32 ((m 23).s.c : Int), .int .u64 ((m 23).s.l : Int), .string (strOf (m 23).s.n), .string (strOf (m 23).s.u), .string (strOf (m 23).s.g), .string (strOf (m 23).s.x)]
theorem of_set (m : Nat → F) (v11 v12 u : Value) : (ofLit m v11 v12).setIfInBounds 12 u = ofLit m v11 u := rfl
theorem of_size (m : Nat → F) (v11 v12 : Value) : (ofLit m v11 v12).size = 36 := rfl
theorem of_one (m : Nat → F) (A A' : Option Addr) (n c n' c' : Nat) : (ofLit m (.slice A n c) (.slice A' n' c')).all (fun x => x.oneCell') = true := by simp [ofLit, Value.oneCell']
theorem of_at {w w' : World} {lo hi lo' hi' : Nat} {cs : Array Value} {m : Nat → F} {v11 v12 : Value} (h : MgAt w lo hi cs m) (h11 : cs[11]? = some v11) (hk : ∀ p : Addr, lo ≤ p.block → p.block < hi → w'.cell? p = w.cell? p) (hlo : lo' ≤ lo) (hhi : hi ≤ hi') (hq : QdsAt w' lo' hi' v12 (m 12).qs) : RMgAt w' lo' hi' (ofLit m v11 v12) m := by
  refine ⟨rfl, h.kind, fun p hp => ?_⟩
  have hk0 := h.kind p hp
  have hl := h.lies p hp
  simp only [places, List.mem_cons, List.not_mem_nil, or_false] at hp
  rcases hp with rfl | rfl | rfl | rfl | rfl | rfl | rfl | rfl | rfl | rfl | rfl | rfl | rfl | rfl | rfl | rfl | rfl | rfl | rfl | rfl | rfl | rfl
  · show RFAt _ _ _ _ 0 (m 0)
    rw [is_num hk0]
    rfl
  · show RFAt _ _ _ _ 1 (m 1)
    rw [is_num hk0]
    rfl
  · show RFAt _ _ _ _ 2 (m 2)
    rw [is_num hk0]
    rfl
  · show RFAt _ _ _ _ 3 (m 3)
    rw [is_text hk0]
    rfl
  · show RFAt _ _ _ _ 4 (m 4)
    rw [is_num hk0]
    rfl
  · show RFAt _ _ _ _ 5 (m 5)
    rw [is_num hk0]
    rfl
  · show RFAt _ _ _ _ 6 (m 6)
    rw [is_num hk0]
    rfl
  · show RFAt _ _ _ _ 7 (m 7)
    rw [is_text hk0]
    rfl
  · show RFAt _ _ _ _ 8 (m 8)
    rw [is_text hk0]
    rfl
  · show RFAt _ _ _ _ 9 (m 9)
    rw [is_text hk0]
    rfl
  · show RFAt _ _ _ _ 10 (m 10)
    rw [is_num hk0]
    rfl
  · obtain ⟨L, hL⟩ := kind_texts hk0
    simp only at hL hl
    show RFAt _ _ _ _ 11 (m 11)
    rw [hL] at hl ⊢
    obtain ⟨v, a, b⟩ := hl
    rw [h11] at a
    injection a with a
    subst a
    exact ⟨v11, rfl, (b.keep hk).wide hlo hhi⟩
  · show RFAt _ _ _ _ 12 (m 12)
    rw [is_qids hk0]
    exact ⟨v12, rfl, hq⟩
  · show RFAt _ _ _ _ 13 (m 13)
    rw [is_qid hk0]
    exact ⟨rfl, rfl, rfl⟩
  · show RFAt _ _ _ _ 16 (m 16)
    rw [is_num hk0]
    rfl
  · show RFAt _ _ _ _ 17 (m 17)
    rw [is_num hk0]
    rfl
  · show RFAt _ _ _ _ 18 (m 18)
    rw [is_num hk0]
    rfl
  · show RFAt _ _ _ _ 19 (m 19)
    rw [is_text hk0]
    rfl
  · show RFAt _ _ _ _ 20 (m 20)
    rw [is_num hk0]
    rfl
  · show RFAt _ _ _ _ 21 (m 21)
    rw [is_num hk0]
    rfl
  · show RFAt _ _ _ _ 22 (m 22)
    rw [is_data hk0]
    rfl
  · show RFAt _ _ _ _ 23 (m 23)
    rw [is_stat hk0]
    intro j hj
    match j, hj with
    | 0, _ => rfl
    | 1, _ => rfl
    | 2, _ => rfl
    | 3, _ => rfl
    | 4, _ => rfl
    | 5, _ => rfl
    | 6, _ => rfl
    | 7, _ => rfl
    | 8, _ => rfl
    | 9, _ => rfl
    | 10, _ => rfl
    | 11, _ => rfl
    | 12, _ => rfl
theorem exec_load_mid {P : Program} {o : Oper} {a : Act} {w : World} {ty : TypeId} {x : Operand} {g k : Nat} {t : TypeId} {ms cs : Array Value} {d : TypeDesc} (ho : o.op = .load ty x)
    (hx : a.eval x = .pointer (some ⟨g, k, none⟩)) (hg : Has w g t ms) (hc : ∀ j, j < cs.size → ms[k + j]? = cs[j]?) (hu : P.underlying ty = some d) (hd : (match d with | .struct _ | .array _ _ => true | _ => false) = true) (hi : (P.info? ty).map (·.size) = some cs.size) :
    (execOp a.eval o).run P w = .ok (.value (.agg cs)) w := by
  have hcell : ∀ (j : Nat) (u : Value), cs.toList[j]? = some u → w.cell? ((⟨g, k, none⟩ : Addr).add j) = some u := by
    intro j u hu
    have e : (⟨g, k, none⟩ : Addr).add j = ⟨g, k + j, none⟩ := by unfold Addr.add; split <;> simp_all
    have hj : j < cs.size := by
      have := (List.getElem?_eq_some_iff.1 hu).1
      simpa using this
    rw [e, hg.cell, hc j hj]
    simpa using hu
  have hl : (loadCells ⟨g, k, none⟩ cs.toList.length).run P w = .ok cs.toList.toArray w := run_loadCells_list (P := P) w _ cs.toList hcell
  simp only [Array.length_toList, Array.toArray_toList] at hl
  have hv : (loadVar ty ⟨g, k, none⟩).run P w = .ok (.agg cs) w := by
    cases hq : P.info? ty with
    | none => simp [hq] at hi
    | some i =>
      have hs : i.size = cs.size := by simpa [hq] using hi
      have hagg : (isAgg ty).run P w = .ok true w := by
        unfold isAgg
        rw [Sem.run_bind, run_underlying hu w]
        cases d <;> simp_all
      simp [loadVar, Sem.run_bind, hagg, sizeOf, typeInfo, hq, hs, hl]
  unfold execOp
  simp only [ho, hx, Instr.loadAt, Instr.sureAddr, Sem.run_bind, Sem.run_pure, Result.andThen_ok, hv]
theorem exec_build {P : Program} {o : Oper} {a : Act} {w : World} {ty : TypeId} {parts : Array (Nat × Operand)} {cs : Array Value} (ho : o.op = .build ty parts) (hb : P.built ty (parts.map fun (i, x) => (i, a.eval x)).toList = some cs) :
    (execOp a.eval o).run P w = .ok (.value (.agg cs)) w := by
  unfold execOp
  simp only [ho, Sem.run_bind, Sem.run_pure, Result.andThen_ok, run_build w ty _ _ hb]
theorem Tryz.builtOf (m : Nat → F) (A : Option Addr) (n c : Nat) : Tryz.prog.built 43 [(0, .int .u8 ((m 0).n : Int)), (1, .int .u16 ((m 1).n : Int)), (2, .int .u32 ((m 2).n : Int)), (3, .string (strOf (m 3).t)), (4, .int .u32 ((m 4).n : Int)), (5, .int .u32 ((m 5).n : Int)), (6, .int .u32 ((m 6).n : Int)), (7, .string (strOf (m 7).t)), (8, .string (strOf (m 8).t)), (9, .string (strOf (m 9).t)), (10, .int .u16 ((m 10).n : Int)), (11, .slice A n c), (13, .agg #[.int .u8 ((m 13).q.t : Int), .int .u32 ((m 13).q.v : Int), .int .u64 ((m 13).q.p : Int)]), (14, .int .u32 ((m 16).n : Int)), (15, .int .u8 ((m 17).n : Int)), (16, .int .u32 ((m 18).n : Int)), (17, .string (strOf (m 19).t)), (18, .int .u64 ((m 20).n : Int)), (19, .int .u32 ((m 21).n : Int)), (20, .string (strOf (m 22).d)), (21, .agg #[.int .u16 ((m 23).s.k : Int), .int .u32 ((m 23).s.d : Int), .int .u8 ((m 23).s.q.t : Int), .int .u32 ((m 23).s.q.v : Int), .int .u64 ((m 23).s.q.p : Int), .int .u32 ((m 23).s.m : Int), .int .u32 ((m 23).s.a : Int), .int .u32 ((m 23).s.c : Int), .int .u64 ((m 23).s.l : Int), .string (strOf (m 23).s.n), .string (strOf (m 23).s.u), .string (strOf (m 23).s.g), .string (strOf (m 23).s.x)])] = some (ofLit m (.slice A n c) (.slice none 0 0)) := by kernel_rfl
theorem Tryz.infoRefQid : (Tryz.prog.info? 39).map (fun i => (i.zero, i.size, i.bytes)) = some (some Q3.zero.val, 3, 16) := by kernel_rfl
/-- The loop's head: so many qids are told. -/
structure OInv (w W : World) (g : Nat) (m : Nat → F) (v11 : Value) (j : Nat) (u : Value) (wr : World) : Prop where
  has : Has wr g 43 (ofLit m v11 u)
  own : wr.ownsRow (w.heap.size + 2) 39 3 u j (qidsV ((m 12).qs.take j))
  low : Only (fun _ => False) W wr
theorem OInv.step {w W wr w2 w3 : World} {g j : Nat} {m : Nat → F} {v11 u v' : Value} {q : Q3} (I : OInv w W g m v11 j u wr) (hg : W.heap.size ≤ g) (hW : W.heap.size = w.heap.size + 2) (hj : j < (m 12).qs.length) (hq : (m 12).qs[j] = q) (k2 : Only (fun _ => False) wr w2)
    (hown : w3.ownsRow (w.heap.size + 2) 39 3 v' (j + 1) (qidsV ((m 12).qs.take j) ++ qidV q)) (hgr : (w2.alloc (.cells #[.int .u8 (q.t : Int), .int .u32 (q.v : Int), .int .u64 (q.p : Int)] 39)).grownBy w3 u.ownBlock) (hnew : v'.ownBlock = u.ownBlock ∨ v'.ownBlock = some (w2.heap.size + 1)) :
    (w3.cell? ⟨g, 12, none⟩ = some u ∧ w3.frozen? ⟨g, 12, none⟩ = false) ∧ OInv w W g m v11 (j + 1) v' (w3.setCell ⟨g, 12, none⟩ v') := by
  have k3 : Only (fun i => some i = u.ownBlock) w2 w3 := ((Only.refl (fun i => some i = u.ownBlock) w2).alloc _).trans (Only.of_grown hgr) (fun _ _ h => h)
  have hu : some g ≠ u.ownBlock := owns_ne I.own I.has (by decide)
  have h3 : Has w3 g 43 (ofLit m v11 u) := (I.has.only k2 (fun h => h)).only k3 hu
  have hlt : g < w2.heap.size := (I.has.only k2 (fun h => h)).lt
  have hv : v'.ownBlock ≠ some g := by
    rcases hnew with e | e
    · rw [e]; exact fun h => hu h.symm
    · rw [e]; intro h; injection h with h; omega
  refine ⟨⟨h3.cell 12, h3.frozen 12⟩, ?_, ?_, ?_⟩
  · have := h3.set 12 v'
    rw [of_set] at this
    exact this
  · rw [List.take_succ_eq_append_getElem hj, hq, qidsV, List.flatMap_append, List.flatMap_singleton]
    exact owns_only hown ((Only.refl (fun i => i = g) w3).setCell (p := ⟨g, 12, none⟩) (fun _ => rfl) v') (fun i hi h => hv (by rw [hi, h]))
  · have kk : Only (fun _ => False) W w3 := (I.low.trans k2 (fun _ _ h => h)).trans k3 (fun i hi h => by
      have := (I.own.lt i h.symm).1
      omega)
    exact kk.setCell (p := ⟨g, 12, none⟩) (fun h => by simp only at h; omega) v'
/-- What Of answers. -/
structure OfAns (w : World) (m : Nat → F) (cs : Array Value) (w' : World) : Prop where
  mg : RMgAt w' 0 w'.heap.size cs m
  low : Below w.heap.size w w'
theorem of_ans {w W wr : World} {g : Nat} {cs : Array Value} {m : Nat → F} {A : Option Addr} {n c : Nat} {u : Value} (hm : MgAt w 0 w.heap.size cs m) (h11 : cs[11]? = some (.slice A n c)) (k0 : Only (fun _ => False) w W) (r0 : Has W (w.heap.size + 1) 43 RZ) (I : OInv w W g m (.slice A n c) (m 12).qs.length u wr) :
    Has wr g 43 (ofLit m (.slice A n c) u) ∧ Has wr (w.heap.size + 1) 43 RZ ∧ (ofLit m (.slice A n c) u).all (fun x => x.oneCell') = true ∧ OfAns w m (ofLit m (.slice A n c) u) (wr.setRow (w.heap.size + 1) (ofLit m (.slice A n c) u)) := by
  obtain ⟨v11, hv11⟩ : ∃ v, v = Value.slice A n c := ⟨_, rfl⟩
  rw [← hv11] at h11 I ⊢
  have hr := r0.only I.low (fun h => h)
  have own' : wr.ownsRow (w.heap.size + 2) 39 3 u (m 12).qs.length (qidsV (m 12).qs) := by have := I.own; rwa [List.take_length] at this
  have kk : Only (fun _ => False) w wr := k0.trans I.low (fun _ _ h => h)
  have kw : Only (fun _ => False) w (wr.setRow (w.heap.size + 1) (ofLit m v11 u)) := kk.setRow (fun h => by omega) _
  have o2 := owns_only own' ((Only.refl (fun i => i = w.heap.size + 1) wr).setRow (fun _ => rfl) (ofLit m v11 u)) (fun i hi h => by have := (own'.lt i hi).1; omega)
  have hone : (ofLit m v11 u).all (fun x => x.oneCell') = true := by
    rcases id I.own.2 with ⟨e, _⟩ | ⟨g', cap, cur, e, _⟩
    · rw [e, hv11]; exact of_one m _ _ _ _ _ _
    · rw [e, hv11]; exact of_one m _ _ _ _ _ _
  refine ⟨I.has, hr, hone, of_at hm h11 (kw.keeps (Nat.le_refl _) (fun _ _ _ h => h)) (Nat.le_refl _) kw.size ((owns_qids o2).wide (Nat.zero_le _) (Nat.le_refl _)), kw.below (Nat.le_refl _) (fun _ _ h => h)⟩

set_option maxHeartbeats 8000000 in
theorem of5_any (cs : Array Value) (m : Nat → F) (w : World) (hm : MgAt w 0 w.heap.size cs m) (hQ : (m 12).qs.length ≤ 1000) :
    Calls Tryz.prog 8 #[.agg cs] w (fun e w' => ∃ cs', e = .returned (.agg cs') ∧ OfAns w m cs' w') := by
  obtain ⟨W, hW⟩ : ∃ W, W = (w.alloc (.cells cs 34)).alloc (.cells #[.int .u8 0, .int .u16 0, .int .u32 0, .string ⟨#[]⟩, .int .u32 0, .int .u32 0, .int .u32 0, .string ⟨#[]⟩, .string ⟨#[]⟩, .string ⟨#[]⟩, .int .u16 0, .slice none 0 0, .slice none 0 0, .int .u8 0, .int .u32 0, .int .u64 0, .int .u32 0, .int .u8 0, .int .u32 0, .string ⟨#[]⟩, .int .u64 0, .int .u32 0, .string ⟨#[]⟩, .int .u16 0, .int .u32 0, .int .u8 0, .int .u32 0, .int .u64 0, .int .u32 0, .int .u32 0, .int .u32 0, .int .u64 0, .string ⟨#[]⟩, .string ⟨#[]⟩, .string ⟨#[]⟩, .string ⟨#[]⟩] 43) := ⟨_, rfl⟩
  have E0 : Hid (cs[0]? = some (.int .u8 ((m 0).n : Int))) := Lib.hid (by have a := hm.lies (.num 1, 0) (by decide); simp only at a; rw [is_num (hm.kind (.num 1, 0) (by decide))] at a; exact a)
  have E1 : Hid (cs[1]? = some (.int .u16 ((m 1).n : Int))) := Lib.hid (by have a := hm.lies (.num 2, 1) (by decide); simp only at a; rw [is_num (hm.kind (.num 2, 1) (by decide))] at a; exact a)
  have E2 : Hid (cs[2]? = some (.int .u32 ((m 2).n : Int))) := Lib.hid (by have a := hm.lies (.num 4, 2) (by decide); simp only at a; rw [is_num (hm.kind (.num 4, 2) (by decide))] at a; exact a)
  have E3 : Hid (cs[3]? = some (.string (strOf (m 3).t))) := Lib.hid (by have a := hm.lies (.text, 3) (by decide); simp only at a; rw [is_text (hm.kind (.text, 3) (by decide))] at a; exact a)
  have E4 : Hid (cs[4]? = some (.int .u32 ((m 4).n : Int))) := Lib.hid (by have a := hm.lies (.num 4, 4) (by decide); simp only at a; rw [is_num (hm.kind (.num 4, 4) (by decide))] at a; exact a)
  have E5 : Hid (cs[5]? = some (.int .u32 ((m 5).n : Int))) := Lib.hid (by have a := hm.lies (.num 4, 5) (by decide); simp only at a; rw [is_num (hm.kind (.num 4, 5) (by decide))] at a; exact a)
  have E6 : Hid (cs[6]? = some (.int .u32 ((m 6).n : Int))) := Lib.hid (by have a := hm.lies (.num 4, 6) (by decide); simp only at a; rw [is_num (hm.kind (.num 4, 6) (by decide))] at a; exact a)
  have E7 : Hid (cs[7]? = some (.string (strOf (m 7).t))) := Lib.hid (by have a := hm.lies (.text, 7) (by decide); simp only at a; rw [is_text (hm.kind (.text, 7) (by decide))] at a; exact a)
  have E8 : Hid (cs[8]? = some (.string (strOf (m 8).t))) := Lib.hid (by have a := hm.lies (.text, 8) (by decide); simp only at a; rw [is_text (hm.kind (.text, 8) (by decide))] at a; exact a)
  have E9 : Hid (cs[9]? = some (.string (strOf (m 9).t))) := Lib.hid (by have a := hm.lies (.text, 9) (by decide); simp only at a; rw [is_text (hm.kind (.text, 9) (by decide))] at a; exact a)
  have E10 : Hid (cs[10]? = some (.int .u16 ((m 10).n : Int))) := Lib.hid (by have a := hm.lies (.num 2, 10) (by decide); simp only at a; rw [is_num (hm.kind (.num 2, 10) (by decide))] at a; exact a)
  have E16 : Hid (cs[16]? = some (.int .u32 ((m 16).n : Int))) := Lib.hid (by have a := hm.lies (.num 4, 16) (by decide); simp only at a; rw [is_num (hm.kind (.num 4, 16) (by decide))] at a; exact a)
  have E17 : Hid (cs[17]? = some (.int .u8 ((m 17).n : Int))) := Lib.hid (by have a := hm.lies (.num 1, 17) (by decide); simp only at a; rw [is_num (hm.kind (.num 1, 17) (by decide))] at a; exact a)
  have E18 : Hid (cs[18]? = some (.int .u32 ((m 18).n : Int))) := Lib.hid (by have a := hm.lies (.num 4, 18) (by decide); simp only at a; rw [is_num (hm.kind (.num 4, 18) (by decide))] at a; exact a)
  have E19 : Hid (cs[19]? = some (.string (strOf (m 19).t))) := Lib.hid (by have a := hm.lies (.text, 19) (by decide); simp only at a; rw [is_text (hm.kind (.text, 19) (by decide))] at a; exact a)
  have E20 : Hid (cs[20]? = some (.int .u64 ((m 20).n : Int))) := Lib.hid (by have a := hm.lies (.num 8, 20) (by decide); simp only at a; rw [is_num (hm.kind (.num 8, 20) (by decide))] at a; exact a)
  have E21 : Hid (cs[21]? = some (.int .u32 ((m 21).n : Int))) := Lib.hid (by have a := hm.lies (.num 4, 21) (by decide); simp only at a; rw [is_num (hm.kind (.num 4, 21) (by decide))] at a; exact a)
  obtain ⟨L, hL⟩ := kind_texts (hm.kind (.texts, 11) (by decide))
  have a11 := hm.lies (.texts, 11) (by decide)
  simp only at hL a11
  rw [hL] at a11
  obtain ⟨x11, c11, A, c, hx11, _⟩ := a11
  subst hx11
  have E11 := Lib.hid c11
  have a22 := hm.lies (.data, 22) (by decide)
  simp only at a22
  rw [is_data (hm.kind (.data, 22) (by decide))] at a22
  obtain ⟨v22, c22, sl22⟩ := a22
  simp only at sl22
  have E22 := Lib.hid c22
  have a12 := hm.lies (.qids, 12) (by decide)
  simp only at a12
  rw [is_qids (hm.kind (.qids, 12) (by decide))] at a12
  obtain ⟨v12, c12, sl12⟩ := a12
  simp only at sl12
  obtain ⟨A12, c12', hx12, _⟩ := id sl12
  subst hx12
  have a13 := hm.lies (.qid, 13) (by decide)
  simp only at a13
  rw [is_qid (hm.kind (.qid, 13) (by decide))] at a13
  have E13 : Hid (∀ j, j < (#[.int .u8 ((m 13).q.t : Int), .int .u32 ((m 13).q.v : Int), .int .u64 ((m 13).q.p : Int)] : Array Value).size → cs[13 + j]? = (#[.int .u8 ((m 13).q.t : Int), .int .u32 ((m 13).q.v : Int), .int .u64 ((m 13).q.p : Int)] : Array Value)[j]?) := Lib.hid (fun j hj => by
    have hj : j < 3 := hj
    match j, hj with
    | 0, _ => exact a13.1
    | 1, _ => exact a13.2.1
    | 2, _ => exact a13.2.2)
  have a23 := hm.lies (.stat, 23) (by decide)
  simp only at a23
  rw [is_stat (hm.kind (.stat, 23) (by decide))] at a23
  have E23 : Hid (∀ j, j < (m 23).s.cells.size → cs[23 + j]? = (m 23).s.cells[j]?) := Lib.hid (fun j hj => a23 j hj)
  have n0 : Has W w.heap.size 34 cs := by rw [hW]; exact (Has.new w _ _).alloc _
  have r0 : Has W (w.heap.size + 1) 43 RZ := by
    rw [hW]
    have := Has.new (w.alloc (.cells cs 34)) 43 #[.int .u8 0, .int .u16 0, .int .u32 0, .string ⟨#[]⟩, .int .u32 0, .int .u32 0, .int .u32 0, .string ⟨#[]⟩, .string ⟨#[]⟩, .string ⟨#[]⟩, .int .u16 0, .slice none 0 0, .slice none 0 0, .int .u8 0, .int .u32 0, .int .u64 0, .int .u32 0, .int .u8 0, .int .u32 0, .string ⟨#[]⟩, .int .u64 0, .int .u32 0, .string ⟨#[]⟩, .int .u16 0, .int .u32 0, .int .u8 0, .int .u32 0, .int .u64 0, .int .u32 0, .int .u32 0, .int .u32 0, .int .u64 0, .string ⟨#[]⟩, .string ⟨#[]⟩, .string ⟨#[]⟩, .string ⟨#[]⟩]
    show Has _ _ _ #[.int .u8 0, .int .u16 0, .int .u32 0, .string ⟨#[]⟩, .int .u32 0, .int .u32 0, .int .u32 0, .string ⟨#[]⟩, .string ⟨#[]⟩, .string ⟨#[]⟩, .int .u16 0, .slice none 0 0, .slice none 0 0, .int .u8 0, .int .u32 0, .int .u64 0, .int .u32 0, .int .u8 0, .int .u32 0, .string ⟨#[]⟩, .int .u64 0, .int .u32 0, .string ⟨#[]⟩, .int .u16 0, .int .u32 0, .int .u8 0, .int .u32 0, .int .u64 0, .int .u32 0, .int .u32 0, .int .u32 0, .int .u64 0, .string ⟨#[]⟩, .string ⟨#[]⟩, .string ⟨#[]⟩, .string ⟨#[]⟩]
    simpa using this
  have k0 : Only (fun _ => False) w W := by rw [hW]; exact ((Only.refl _ w).alloc _).alloc _
  have sW : W.heap.size = w.heap.size + 2 := by rw [hW]; simp
  have HS : Hid (∀ w', Only (fun _ => False) W w' → Has w' w.heap.size 34 cs ∧ (convert 22 9 v22).run Tryz.prog w' = .ok (.string (strOf (m 22).d)) w') := Lib.hid (fun w' k =>
    ⟨n0.only k (fun h => h), run_str v22 _ _ _ w' (sl22.keep ((k0.trans k (fun _ _ h => h)).keeps (Nat.le_refl _) (fun _ _ _ h => h)))⟩)
  have HX : Hid (∀ w', Only (fun _ => False) W w' → QdsAt w' 0 w.heap.size (.slice A12 (m 12).qs.length c12') (m 12).qs ∧ w'.cell? ⟨w.heap.size, 12, none⟩ = some (.slice A12 (m 12).qs.length c12')) := Lib.hid (fun w' k =>
    ⟨sl12.keep ((k0.trans k (fun _ _ h => h)).keeps (Nat.le_refl _) (fun _ _ _ h => h)), ((n0.only k (fun h => h)).cell 12).trans c12⟩)
  have HA := Lib.hid (fun (wr : World) (g : Nat) (u : Value) (I : OInv w W g m (.slice A L.length c) (m 12).qs.length u wr) => of_ans hm c11 k0 r0 I)
  have CQ := Lib.hid (fun W => law3of_any (m 13).q W)
  have CS := Lib.hid (fun W => of4_any (m 23).s W)
  unfold Q3.val at CQ
  unfold S11.val at CS
  have KD : Hid (Only (fun _ => False) W W.drew) := ⟨rfl, rfl, rfl, Nat.le_refl _, fun _ _ _ => rfl⟩
  obtain ⟨i0', hi0, hz0, hz1, hz22⟩ := info_parts Tryz.infoRefQid
  have HW := Lib.hid hW.symm
  clear hm hL c11 c22 sl22 c12 sl12 a13 a23 n0 r0 k0 hW
  go_enter Tryz.func8, Tryz.ntmps8
  go_upto_region 1 with fail
  refine (show Code.wp _ _ _ _ ((w.alloc (.cells cs 34)).alloc (.cells #[.int .u8 0, .int .u16 0, .int .u32 0, .string ⟨#[]⟩, .int .u32 0, .int .u32 0, .int .u32 0, .string ⟨#[]⟩, .string ⟨#[]⟩, .string ⟨#[]⟩, .int .u16 0, .slice none 0 0, .slice none 0 0, .int .u8 0, .int .u32 0, .int .u64 0, .int .u32 0, .int .u8 0, .int .u32 0, .string ⟨#[]⟩, .int .u64 0, .int .u32 0, .string ⟨#[]⟩, .int .u16 0, .int .u32 0, .int .u8 0, .int .u32 0, .int .u64 0, .int .u32 0, .int .u32 0, .int .u32 0, .int .u64 0, .string ⟨#[]⟩, .string ⟨#[]⟩, .string ⟨#[]⟩, .string ⟨#[]⟩] 43)) from ?_)
  rw [HW.out]
  clear HW
  go_cut [3] from 5 to 50 (fun s3 wx => ∃ g, s3 = .pointer (some ⟨g, 0, none⟩) ∧ w.heap.size + 2 ≤ g ∧ Hid (Has wx g 43 (ofLit m (.slice A L.length c) (.slice none 0 0))) ∧ Hid (Only (fun _ => False) W wx))
  case first =>
    refine wp_region_held_drew (S := fun w' => Has w' w.heap.size 34 cs ∧ (convert 22 9 v22).run Tryz.prog w' = .ok (.string (strOf (m 22).d)) w') (by kernel_rfl) ?_ (fun hHeld => ?_)
    · exact HS.out _ KD.out
    refine takeH (i := 0) (d := 5) (v := ?_) (by kernel_rfl) (by kernel_rfl) (by kernel_rfl) rfl (fun _ _ _ h => h) (by rfl) ?_ hHeld ?_
    rotate_left
    · intro o ho w hSw
      cases ho
      go_simp
      try with_reducible rfl
    simp only [Act.put, List.setIfInBounds_toArray, List.set_cons_zero, List.set_cons_succ]
    refine takeH (i := 1) (d := 6) (v := .int .u8 ((m 0).n : Int)) (by kernel_rfl) (by kernel_rfl) (by kernel_rfl) rfl (fun _ _ _ h => h) (by rfl) ?_ hHeld ?_
    · intro o ho w hSw
      have c := (hSw.1.cell 0).trans E0.out
      cases ho
      go_simp
    simp only [Act.put, List.setIfInBounds_toArray, List.set_cons_zero, List.set_cons_succ]
    refine takeH (i := 2) (d := 7) (v := ?_) (by kernel_rfl) (by kernel_rfl) (by kernel_rfl) rfl (fun _ _ _ h => h) (by rfl) ?_ hHeld ?_
    rotate_left
    · intro o ho w hSw
      cases ho
      go_simp
      try with_reducible rfl
    simp only [Act.put, List.setIfInBounds_toArray, List.set_cons_zero, List.set_cons_succ]
    refine takeH (i := 3) (d := 8) (v := .int .u16 ((m 1).n : Int)) (by kernel_rfl) (by kernel_rfl) (by kernel_rfl) rfl (fun _ _ _ h => h) (by rfl) ?_ hHeld ?_
    · intro o ho w hSw
      have c := (hSw.1.cell 1).trans E1.out
      cases ho
      go_simp
    simp only [Act.put, List.setIfInBounds_toArray, List.set_cons_zero, List.set_cons_succ]
    refine takeH (i := 4) (d := 9) (v := ?_) (by kernel_rfl) (by kernel_rfl) (by kernel_rfl) rfl (fun _ _ _ h => h) (by rfl) ?_ hHeld ?_
    rotate_left
    · intro o ho w hSw
      cases ho
      go_simp
      try with_reducible rfl
    simp only [Act.put, List.setIfInBounds_toArray, List.set_cons_zero, List.set_cons_succ]
    refine takeH (i := 5) (d := 10) (v := .int .u32 ((m 2).n : Int)) (by kernel_rfl) (by kernel_rfl) (by kernel_rfl) rfl (fun _ _ _ h => h) (by rfl) ?_ hHeld ?_
    · intro o ho w hSw
      have c := (hSw.1.cell 2).trans E2.out
      cases ho
      go_simp
    simp only [Act.put, List.setIfInBounds_toArray, List.set_cons_zero, List.set_cons_succ]
    refine takeH (i := 6) (d := 11) (v := ?_) (by kernel_rfl) (by kernel_rfl) (by kernel_rfl) rfl (fun _ _ _ h => h) (by rfl) ?_ hHeld ?_
    rotate_left
    · intro o ho w hSw
      cases ho
      go_simp
      try with_reducible rfl
    simp only [Act.put, List.setIfInBounds_toArray, List.set_cons_zero, List.set_cons_succ]
    refine takeH (i := 7) (d := 12) (v := .string (strOf (m 3).t)) (by kernel_rfl) (by kernel_rfl) (by kernel_rfl) rfl (fun _ _ _ h => h) (by rfl) ?_ hHeld ?_
    · intro o ho w hSw
      have c := (hSw.1.cell 3).trans E3.out
      cases ho
      go_simp
    simp only [Act.put, List.setIfInBounds_toArray, List.set_cons_zero, List.set_cons_succ]
    refine takeH (i := 8) (d := 13) (v := ?_) (by kernel_rfl) (by kernel_rfl) (by kernel_rfl) rfl (fun _ _ _ h => h) (by rfl) ?_ hHeld ?_
    rotate_left
    · intro o ho w hSw
      cases ho
      go_simp
      try with_reducible rfl
    simp only [Act.put, List.setIfInBounds_toArray, List.set_cons_zero, List.set_cons_succ]
    refine takeH (i := 9) (d := 14) (v := .int .u32 ((m 4).n : Int)) (by kernel_rfl) (by kernel_rfl) (by kernel_rfl) rfl (fun _ _ _ h => h) (by rfl) ?_ hHeld ?_
    · intro o ho w hSw
      have c := (hSw.1.cell 4).trans E4.out
      cases ho
      go_simp
    simp only [Act.put, List.setIfInBounds_toArray, List.set_cons_zero, List.set_cons_succ]
    refine takeH (i := 10) (d := 15) (v := ?_) (by kernel_rfl) (by kernel_rfl) (by kernel_rfl) rfl (fun _ _ _ h => h) (by rfl) ?_ hHeld ?_
    rotate_left
    · intro o ho w hSw
      cases ho
      go_simp
      try with_reducible rfl
    simp only [Act.put, List.setIfInBounds_toArray, List.set_cons_zero, List.set_cons_succ]
    refine takeH (i := 11) (d := 16) (v := .int .u32 ((m 5).n : Int)) (by kernel_rfl) (by kernel_rfl) (by kernel_rfl) rfl (fun _ _ _ h => h) (by rfl) ?_ hHeld ?_
    · intro o ho w hSw
      have c := (hSw.1.cell 5).trans E5.out
      cases ho
      go_simp
    simp only [Act.put, List.setIfInBounds_toArray, List.set_cons_zero, List.set_cons_succ]
    refine takeH (i := 12) (d := 17) (v := ?_) (by kernel_rfl) (by kernel_rfl) (by kernel_rfl) rfl (fun _ _ _ h => h) (by rfl) ?_ hHeld ?_
    rotate_left
    · intro o ho w hSw
      cases ho
      go_simp
      try with_reducible rfl
    simp only [Act.put, List.setIfInBounds_toArray, List.set_cons_zero, List.set_cons_succ]
    refine takeH (i := 13) (d := 18) (v := .int .u32 ((m 6).n : Int)) (by kernel_rfl) (by kernel_rfl) (by kernel_rfl) rfl (fun _ _ _ h => h) (by rfl) ?_ hHeld ?_
    · intro o ho w hSw
      have c := (hSw.1.cell 6).trans E6.out
      cases ho
      go_simp
    simp only [Act.put, List.setIfInBounds_toArray, List.set_cons_zero, List.set_cons_succ]
    refine takeH (i := 14) (d := 19) (v := ?_) (by kernel_rfl) (by kernel_rfl) (by kernel_rfl) rfl (fun _ _ _ h => h) (by rfl) ?_ hHeld ?_
    rotate_left
    · intro o ho w hSw
      cases ho
      go_simp
      try with_reducible rfl
    simp only [Act.put, List.setIfInBounds_toArray, List.set_cons_zero, List.set_cons_succ]
    refine takeH (i := 15) (d := 20) (v := .string (strOf (m 7).t)) (by kernel_rfl) (by kernel_rfl) (by kernel_rfl) rfl (fun _ _ _ h => h) (by rfl) ?_ hHeld ?_
    · intro o ho w hSw
      have c := (hSw.1.cell 7).trans E7.out
      cases ho
      go_simp
    simp only [Act.put, List.setIfInBounds_toArray, List.set_cons_zero, List.set_cons_succ]
    refine takeH (i := 16) (d := 21) (v := ?_) (by kernel_rfl) (by kernel_rfl) (by kernel_rfl) rfl (fun _ _ _ h => h) (by rfl) ?_ hHeld ?_
    rotate_left
    · intro o ho w hSw
      cases ho
      go_simp
      try with_reducible rfl
    simp only [Act.put, List.setIfInBounds_toArray, List.set_cons_zero, List.set_cons_succ]
    refine takeH (i := 17) (d := 22) (v := .string (strOf (m 8).t)) (by kernel_rfl) (by kernel_rfl) (by kernel_rfl) rfl (fun _ _ _ h => h) (by rfl) ?_ hHeld ?_
    · intro o ho w hSw
      have c := (hSw.1.cell 8).trans E8.out
      cases ho
      go_simp
    simp only [Act.put, List.setIfInBounds_toArray, List.set_cons_zero, List.set_cons_succ]
    refine takeH (i := 18) (d := 23) (v := ?_) (by kernel_rfl) (by kernel_rfl) (by kernel_rfl) rfl (fun _ _ _ h => h) (by rfl) ?_ hHeld ?_
    rotate_left
    · intro o ho w hSw
      cases ho
      go_simp
      try with_reducible rfl
    simp only [Act.put, List.setIfInBounds_toArray, List.set_cons_zero, List.set_cons_succ]
    refine takeH (i := 19) (d := 24) (v := .string (strOf (m 9).t)) (by kernel_rfl) (by kernel_rfl) (by kernel_rfl) rfl (fun _ _ _ h => h) (by rfl) ?_ hHeld ?_
    · intro o ho w hSw
      have c := (hSw.1.cell 9).trans E9.out
      cases ho
      go_simp
    simp only [Act.put, List.setIfInBounds_toArray, List.set_cons_zero, List.set_cons_succ]
    refine takeH (i := 20) (d := 25) (v := ?_) (by kernel_rfl) (by kernel_rfl) (by kernel_rfl) rfl (fun _ _ _ h => h) (by rfl) ?_ hHeld ?_
    rotate_left
    · intro o ho w hSw
      cases ho
      go_simp
      try with_reducible rfl
    simp only [Act.put, List.setIfInBounds_toArray, List.set_cons_zero, List.set_cons_succ]
    refine takeH (i := 21) (d := 26) (v := .int .u16 ((m 10).n : Int)) (by kernel_rfl) (by kernel_rfl) (by kernel_rfl) rfl (fun _ _ _ h => h) (by rfl) ?_ hHeld ?_
    · intro o ho w hSw
      have c := (hSw.1.cell 10).trans E10.out
      cases ho
      go_simp
    simp only [Act.put, List.setIfInBounds_toArray, List.set_cons_zero, List.set_cons_succ]
    refine takeH (i := 22) (d := 27) (v := ?_) (by kernel_rfl) (by kernel_rfl) (by kernel_rfl) rfl (fun _ _ _ h => h) (by rfl) ?_ hHeld ?_
    rotate_left
    · intro o ho w hSw
      cases ho
      go_simp
      try with_reducible rfl
    simp only [Act.put, List.setIfInBounds_toArray, List.set_cons_zero, List.set_cons_succ]
    refine takeH (i := 23) (d := 28) (v := .slice A L.length c) (by kernel_rfl) (by kernel_rfl) (by kernel_rfl) rfl (fun _ _ _ h => h) (by rfl) ?_ hHeld ?_
    · intro o ho w hSw
      have c := (hSw.1.cell 11).trans E11.out
      cases ho
      go_simp
    simp only [Act.put, List.setIfInBounds_toArray, List.set_cons_zero, List.set_cons_succ]
    refine takeH (i := 24) (d := 29) (v := ?_) (by kernel_rfl) (by kernel_rfl) (by kernel_rfl) rfl (fun _ _ _ h => h) (by rfl) ?_ hHeld ?_
    rotate_left
    · intro o ho w hSw
      cases ho
      go_simp
      try with_reducible rfl
    simp only [Act.put, List.setIfInBounds_toArray, List.set_cons_zero, List.set_cons_succ]
    refine takeH (i := 25) (d := 30) (v := .agg #[.int .u8 ((m 13).q.t : Int), .int .u32 ((m 13).q.v : Int), .int .u64 ((m 13).q.p : Int)]) (by kernel_rfl) (by kernel_rfl) (by kernel_rfl) rfl (fun _ _ _ h => h) (by rfl) ?_ hHeld ?_
    · intro o ho w hSw
      cases ho
      exact exec_load_mid (cs := #[.int .u8 ((m 13).q.t : Int), .int .u32 ((m 13).q.v : Int), .int .u64 ((m 13).q.p : Int)]) rfl rfl hSw.1 E13.out Tryz.underlying30 rfl Tryz.qidSize
    simp only [Act.put, List.setIfInBounds_toArray, List.set_cons_zero, List.set_cons_succ]
    refine takeH (i := 27) (d := 32) (v := ?_) (by kernel_rfl) (by kernel_rfl) (by kernel_rfl) rfl (fun _ _ _ h => h) (by rfl) ?_ hHeld ?_
    rotate_left
    · intro o ho w hSw
      cases ho
      go_simp
      try with_reducible rfl
    simp only [Act.put, List.setIfInBounds_toArray, List.set_cons_zero, List.set_cons_succ]
    refine takeH (i := 28) (d := 33) (v := .int .u32 ((m 16).n : Int)) (by kernel_rfl) (by kernel_rfl) (by kernel_rfl) rfl (fun _ _ _ h => h) (by rfl) ?_ hHeld ?_
    · intro o ho w hSw
      have c := (hSw.1.cell 16).trans E16.out
      cases ho
      go_simp
    simp only [Act.put, List.setIfInBounds_toArray, List.set_cons_zero, List.set_cons_succ]
    refine takeH (i := 29) (d := 34) (v := ?_) (by kernel_rfl) (by kernel_rfl) (by kernel_rfl) rfl (fun _ _ _ h => h) (by rfl) ?_ hHeld ?_
    rotate_left
    · intro o ho w hSw
      cases ho
      go_simp
      try with_reducible rfl
    simp only [Act.put, List.setIfInBounds_toArray, List.set_cons_zero, List.set_cons_succ]
    refine takeH (i := 30) (d := 35) (v := .int .u8 ((m 17).n : Int)) (by kernel_rfl) (by kernel_rfl) (by kernel_rfl) rfl (fun _ _ _ h => h) (by rfl) ?_ hHeld ?_
    · intro o ho w hSw
      have c := (hSw.1.cell 17).trans E17.out
      cases ho
      go_simp
    simp only [Act.put, List.setIfInBounds_toArray, List.set_cons_zero, List.set_cons_succ]
    refine takeH (i := 31) (d := 36) (v := ?_) (by kernel_rfl) (by kernel_rfl) (by kernel_rfl) rfl (fun _ _ _ h => h) (by rfl) ?_ hHeld ?_
    rotate_left
    · intro o ho w hSw
      cases ho
      go_simp
      try with_reducible rfl
    simp only [Act.put, List.setIfInBounds_toArray, List.set_cons_zero, List.set_cons_succ]
    refine takeH (i := 32) (d := 37) (v := .int .u32 ((m 18).n : Int)) (by kernel_rfl) (by kernel_rfl) (by kernel_rfl) rfl (fun _ _ _ h => h) (by rfl) ?_ hHeld ?_
    · intro o ho w hSw
      have c := (hSw.1.cell 18).trans E18.out
      cases ho
      go_simp
    simp only [Act.put, List.setIfInBounds_toArray, List.set_cons_zero, List.set_cons_succ]
    refine takeH (i := 33) (d := 38) (v := ?_) (by kernel_rfl) (by kernel_rfl) (by kernel_rfl) rfl (fun _ _ _ h => h) (by rfl) ?_ hHeld ?_
    rotate_left
    · intro o ho w hSw
      cases ho
      go_simp
      try with_reducible rfl
    simp only [Act.put, List.setIfInBounds_toArray, List.set_cons_zero, List.set_cons_succ]
    refine takeH (i := 34) (d := 39) (v := .string (strOf (m 19).t)) (by kernel_rfl) (by kernel_rfl) (by kernel_rfl) rfl (fun _ _ _ h => h) (by rfl) ?_ hHeld ?_
    · intro o ho w hSw
      have c := (hSw.1.cell 19).trans E19.out
      cases ho
      go_simp
    simp only [Act.put, List.setIfInBounds_toArray, List.set_cons_zero, List.set_cons_succ]
    refine takeH (i := 35) (d := 40) (v := ?_) (by kernel_rfl) (by kernel_rfl) (by kernel_rfl) rfl (fun _ _ _ h => h) (by rfl) ?_ hHeld ?_
    rotate_left
    · intro o ho w hSw
      cases ho
      go_simp
      try with_reducible rfl
    simp only [Act.put, List.setIfInBounds_toArray, List.set_cons_zero, List.set_cons_succ]
    refine takeH (i := 36) (d := 41) (v := .int .u64 ((m 20).n : Int)) (by kernel_rfl) (by kernel_rfl) (by kernel_rfl) rfl (fun _ _ _ h => h) (by rfl) ?_ hHeld ?_
    · intro o ho w hSw
      have c := (hSw.1.cell 20).trans E20.out
      cases ho
      go_simp
    simp only [Act.put, List.setIfInBounds_toArray, List.set_cons_zero, List.set_cons_succ]
    refine takeH (i := 37) (d := 42) (v := ?_) (by kernel_rfl) (by kernel_rfl) (by kernel_rfl) rfl (fun _ _ _ h => h) (by rfl) ?_ hHeld ?_
    rotate_left
    · intro o ho w hSw
      cases ho
      go_simp
      try with_reducible rfl
    simp only [Act.put, List.setIfInBounds_toArray, List.set_cons_zero, List.set_cons_succ]
    refine takeH (i := 38) (d := 43) (v := .int .u32 ((m 21).n : Int)) (by kernel_rfl) (by kernel_rfl) (by kernel_rfl) rfl (fun _ _ _ h => h) (by rfl) ?_ hHeld ?_
    · intro o ho w hSw
      have c := (hSw.1.cell 21).trans E21.out
      cases ho
      go_simp
    simp only [Act.put, List.setIfInBounds_toArray, List.set_cons_zero, List.set_cons_succ]
    refine takeH (i := 39) (d := 44) (v := ?_) (by kernel_rfl) (by kernel_rfl) (by kernel_rfl) rfl (fun _ _ _ h => h) (by rfl) ?_ hHeld ?_
    rotate_left
    · intro o ho w hSw
      cases ho
      go_simp
      try with_reducible rfl
    simp only [Act.put, List.setIfInBounds_toArray, List.set_cons_zero, List.set_cons_succ]
    refine takeH (i := 40) (d := 45) (v := v22) (by kernel_rfl) (by kernel_rfl) (by kernel_rfl) rfl (fun _ _ _ h => h) (by rfl) ?_ hHeld ?_
    · intro o ho w hSw
      have c := (hSw.1.cell 22).trans E22.out
      cases ho
      go_simp
    simp only [Act.put, List.setIfInBounds_toArray, List.set_cons_zero, List.set_cons_succ]
    refine takeH (i := 41) (d := 46) (v := .string (strOf (m 22).d)) (by kernel_rfl) (by kernel_rfl) (by kernel_rfl) rfl (fun _ _ _ h => h) (by rfl) ?_ hHeld ?_
    · intro o ho w hSw
      have c := hSw.2
      cases ho
      go_simp
    simp only [Act.put, List.setIfInBounds_toArray, List.set_cons_zero, List.set_cons_succ]
    refine takeH (i := 42) (d := 47) (v := ?_) (by kernel_rfl) (by kernel_rfl) (by kernel_rfl) rfl (fun _ _ _ h => h) (by rfl) ?_ hHeld ?_
    rotate_left
    · intro o ho w hSw
      cases ho
      go_simp
      try with_reducible rfl
    simp only [Act.put, List.setIfInBounds_toArray, List.set_cons_zero, List.set_cons_succ]
    refine takeH (i := 43) (d := 48) (v := (m 23).s.val) (by kernel_rfl) (by kernel_rfl) (by kernel_rfl) rfl (fun _ _ _ h => h) (by rfl) ?_ hHeld ?_
    · intro o ho w hSw
      cases ho
      exact exec_load_mid (cs := (m 23).s.cells) rfl rfl hSw.1 E23.out Tryz.underlying32 rfl Tryz.statSize13
    simp only [Act.put, List.setIfInBounds_toArray, List.set_cons_zero, List.set_cons_succ]
    refine wpAnyH_ready (rs := [26, 46]) (by kernel_rfl) (by simp) ?_
    refine AllReadyH.cons rfl (fun K hK => ?_) (AllReadyH.cons rfl (fun K hK => ?_) AllReadyH.nil)
    · go_simp
      refine (CQ.out _).mono ?_
      rintro e w1 ⟨rfl, b1⟩
      have K1 := Lib.hid (KD.out.trans (Below.onlyNew b1) (fun _ _ h => h))
      clear b1 KD
      try go_wp2_with fail
      refine hK.out _ _ ?_ (fun hHeld => ?_)
      · exact HS.out _ K1.out
      clear hK K
      refine wpAnyH_ready (rs := [44, 46]) (by kernel_rfl) (by simp) ?_
      refine AllReadyH.cons rfl (fun K hK => ?_) (AllReadyH.cons rfl (fun K hK => ?_) AllReadyH.nil)
      · go_simp
        refine (CS.out _).mono ?_
        rintro e w2 ⟨rfl, b1⟩
        have K2 := Lib.hid (K1.out.trans (Below.onlyNew b1) (fun _ _ h => h))
        clear b1 K1
        try go_wp2_with fail
        refine hK.out _ _ ?_ (fun hHeld => ?_)
        · exact HS.out _ K2.out
        clear hK K
        refine takeH (i := 45) (d := 50) (v := .agg (ofLit m (.slice A L.length c) (.slice none 0 0))) (by kernel_rfl) (by kernel_rfl) (by kernel_rfl) rfl (fun _ _ _ h => h) (by rfl) ?_ hHeld ?_
        · intro o ho w hSw
          cases ho
          refine exec_build rfl ?_
          kernel_rfl
        simp only [Act.put, List.setIfInBounds_toArray, List.set_cons_zero, List.set_cons_succ]
        refine wpAnyH_ready (rs := [46]) (by kernel_rfl) (by simp) ?_
        refine AllReadyH.cons rfl (fun K hK => ?_) AllReadyH.nil
        go_simp
        have K3 := Lib.hid (K2.out.alloc (.cells #[.int .u8 0, .int .u16 0, .int .u32 0, .string ⟨#[]⟩, .int .u32 0, .int .u32 0, .int .u32 0, .string ⟨#[]⟩, .string ⟨#[]⟩, .string ⟨#[]⟩, .int .u16 0, .slice none 0 0, .slice none 0 0, .int .u8 0, .int .u32 0, .int .u64 0, .int .u32 0, .int .u8 0, .int .u32 0, .string ⟨#[]⟩, .int .u64 0, .int .u32 0, .string ⟨#[]⟩, .int .u16 0, .int .u32 0, .int .u8 0, .int .u32 0, .int .u64 0, .int .u32 0, .int .u32 0, .int .u32 0, .int .u64 0, .string ⟨#[]⟩, .string ⟨#[]⟩, .string ⟨#[]⟩, .string ⟨#[]⟩] 43))
        have Z : Hid (Has (w2.alloc (.cells #[.int .u8 0, .int .u16 0, .int .u32 0, .string ⟨#[]⟩, .int .u32 0, .int .u32 0, .int .u32 0, .string ⟨#[]⟩, .string ⟨#[]⟩, .string ⟨#[]⟩, .int .u16 0, .slice none 0 0, .slice none 0 0, .int .u8 0, .int .u32 0, .int .u64 0, .int .u32 0, .int .u8 0, .int .u32 0, .string ⟨#[]⟩, .int .u64 0, .int .u32 0, .string ⟨#[]⟩, .int .u16 0, .int .u32 0, .int .u8 0, .int .u32 0, .int .u64 0, .int .u32 0, .int .u32 0, .int .u32 0, .int .u64 0, .string ⟨#[]⟩, .string ⟨#[]⟩, .string ⟨#[]⟩, .string ⟨#[]⟩] 43)) w2.heap.size 43 RZ) := Lib.hid (Has.new _ _ _)
        have hg : w.heap.size + 2 ≤ w2.heap.size := by have := K2.out.size; omega
        clear K2
        refine hK.out _ _ ?_ (fun hHeld => ?_)
        · exact HS.out _ K3.out
        clear hK K
        refine wpAnyH_ready (rs := [47]) (by kernel_rfl) (by simp) ?_
        refine AllReadyH.cons rfl (fun K hK => ?_) AllReadyH.nil
        rw [if_pos (by rfl)]
        refine wp_store_row 43 _ _ rfl (w2.heap.size) (ofLit m (.slice A L.length c) (.slice none 0 0)) rfl rfl 43 RZ Z.out Tryz.refMsgSize rfl (of_one m A none L.length c 0 0) ?_
        have KE := Lib.hid (K3.out.setRow (g := w2.heap.size) (fun h => by omega) (ofLit m (.slice A L.length c) (.slice none 0 0)))
        have NE := Lib.hid (Z.out.setRow (ofLit m (.slice A L.length c) (.slice none 0 0)))
        refine hK.out _ _ ?_ (fun hHeld => ?_)
        · exact HS.out _ KE.out
        clear hK K
        simp only [Act.put]
        refine wpAnyH_done (by kernel_rfl) ?_ _
        go_wp2_with fail
        go_meet
        case rel => exact ⟨_, rfl, hg, NE, KE⟩
      · go_simp
        have K2 := Lib.hid (K1.out.alloc (.cells #[.int .u8 0, .int .u16 0, .int .u32 0, .string ⟨#[]⟩, .int .u32 0, .int .u32 0, .int .u32 0, .string ⟨#[]⟩, .string ⟨#[]⟩, .string ⟨#[]⟩, .int .u16 0, .slice none 0 0, .slice none 0 0, .int .u8 0, .int .u32 0, .int .u64 0, .int .u32 0, .int .u8 0, .int .u32 0, .string ⟨#[]⟩, .int .u64 0, .int .u32 0, .string ⟨#[]⟩, .int .u16 0, .int .u32 0, .int .u8 0, .int .u32 0, .int .u64 0, .int .u32 0, .int .u32 0, .int .u32 0, .int .u64 0, .string ⟨#[]⟩, .string ⟨#[]⟩, .string ⟨#[]⟩, .string ⟨#[]⟩] 43))
        have Z : Hid (Has (w1.alloc (.cells #[.int .u8 0, .int .u16 0, .int .u32 0, .string ⟨#[]⟩, .int .u32 0, .int .u32 0, .int .u32 0, .string ⟨#[]⟩, .string ⟨#[]⟩, .string ⟨#[]⟩, .int .u16 0, .slice none 0 0, .slice none 0 0, .int .u8 0, .int .u32 0, .int .u64 0, .int .u32 0, .int .u8 0, .int .u32 0, .string ⟨#[]⟩, .int .u64 0, .int .u32 0, .string ⟨#[]⟩, .int .u16 0, .int .u32 0, .int .u8 0, .int .u32 0, .int .u64 0, .int .u32 0, .int .u32 0, .int .u32 0, .int .u64 0, .string ⟨#[]⟩, .string ⟨#[]⟩, .string ⟨#[]⟩, .string ⟨#[]⟩] 43)) w1.heap.size 43 RZ) := Lib.hid (Has.new _ _ _)
        have hg : w.heap.size + 2 ≤ w1.heap.size := by have := K1.out.size; omega
        clear K1
        refine hK.out _ _ ?_ (fun hHeld => ?_)
        · exact HS.out _ K2.out
        clear hK K
        refine wpAnyH_ready (rs := [44]) (by kernel_rfl) (by simp) ?_
        refine AllReadyH.cons rfl (fun K hK => ?_) AllReadyH.nil
        go_simp
        refine (CS.out _).mono ?_
        rintro e w3 ⟨rfl, b1⟩
        have K3 := Lib.hid (K2.out.trans (Below.onlyNew b1) (fun _ _ h => h))
        have Z' := Lib.hid (Z.out.only (Below.onlyNew b1) (fun h => h))
        clear b1 K2 Z
        have Z := Z'
        clear Z'
        try go_wp2_with fail
        refine hK.out _ _ ?_ (fun hHeld => ?_)
        · exact HS.out _ K3.out
        clear hK K
        refine takeH (i := 45) (d := 50) (v := .agg (ofLit m (.slice A L.length c) (.slice none 0 0))) (by kernel_rfl) (by kernel_rfl) (by kernel_rfl) rfl (fun _ _ _ h => h) (by rfl) ?_ hHeld ?_
        · intro o ho w hSw
          cases ho
          refine exec_build rfl ?_
          kernel_rfl
        simp only [Act.put, List.setIfInBounds_toArray, List.set_cons_zero, List.set_cons_succ]
        refine wpAnyH_ready (rs := [47]) (by kernel_rfl) (by simp) ?_
        refine AllReadyH.cons rfl (fun K hK => ?_) AllReadyH.nil
        rw [if_pos (by rfl)]
        refine wp_store_row 43 _ _ rfl (w1.heap.size) (ofLit m (.slice A L.length c) (.slice none 0 0)) rfl rfl 43 RZ Z.out Tryz.refMsgSize rfl (of_one m A none L.length c 0 0) ?_
        have KE := Lib.hid (K3.out.setRow (g := w1.heap.size) (fun h => by omega) (ofLit m (.slice A L.length c) (.slice none 0 0)))
        have NE := Lib.hid (Z.out.setRow (ofLit m (.slice A L.length c) (.slice none 0 0)))
        refine hK.out _ _ ?_ (fun hHeld => ?_)
        · exact HS.out _ KE.out
        clear hK K
        simp only [Act.put]
        refine wpAnyH_done (by kernel_rfl) ?_ _
        go_wp2_with fail
        go_meet
        case rel => exact ⟨_, rfl, hg, NE, KE⟩
    · go_simp
      have K1 := Lib.hid (KD.out.alloc (.cells #[.int .u8 0, .int .u16 0, .int .u32 0, .string ⟨#[]⟩, .int .u32 0, .int .u32 0, .int .u32 0, .string ⟨#[]⟩, .string ⟨#[]⟩, .string ⟨#[]⟩, .int .u16 0, .slice none 0 0, .slice none 0 0, .int .u8 0, .int .u32 0, .int .u64 0, .int .u32 0, .int .u8 0, .int .u32 0, .string ⟨#[]⟩, .int .u64 0, .int .u32 0, .string ⟨#[]⟩, .int .u16 0, .int .u32 0, .int .u8 0, .int .u32 0, .int .u64 0, .int .u32 0, .int .u32 0, .int .u32 0, .int .u64 0, .string ⟨#[]⟩, .string ⟨#[]⟩, .string ⟨#[]⟩, .string ⟨#[]⟩] 43))
      have Z : Hid (Has (W.drew.alloc (.cells #[.int .u8 0, .int .u16 0, .int .u32 0, .string ⟨#[]⟩, .int .u32 0, .int .u32 0, .int .u32 0, .string ⟨#[]⟩, .string ⟨#[]⟩, .string ⟨#[]⟩, .int .u16 0, .slice none 0 0, .slice none 0 0, .int .u8 0, .int .u32 0, .int .u64 0, .int .u32 0, .int .u8 0, .int .u32 0, .string ⟨#[]⟩, .int .u64 0, .int .u32 0, .string ⟨#[]⟩, .int .u16 0, .int .u32 0, .int .u8 0, .int .u32 0, .int .u64 0, .int .u32 0, .int .u32 0, .int .u32 0, .int .u64 0, .string ⟨#[]⟩, .string ⟨#[]⟩, .string ⟨#[]⟩, .string ⟨#[]⟩] 43)) (w.heap.size + 2) 43 RZ) := Lib.hid (by rw [← sW]; exact Has.new W.drew _ _)
      have hg : w.heap.size + 2 ≤ w.heap.size + 2 := Nat.le_refl _
      clear KD
      refine hK.out _ _ ?_ (fun hHeld => ?_)
      · exact HS.out _ K1.out
      clear hK K
      refine wpAnyH_ready (rs := [26]) (by kernel_rfl) (by simp) ?_
      refine AllReadyH.cons rfl (fun K hK => ?_) AllReadyH.nil
      go_simp
      refine (CQ.out _).mono ?_
      rintro e w1 ⟨rfl, b1⟩
      have K2 := Lib.hid (K1.out.trans (Below.onlyNew b1) (fun _ _ h => h))
      have Z' := Lib.hid (Z.out.only (Below.onlyNew b1) (fun h => h))
      clear b1 K1 Z
      have Z := Z'
      clear Z'
      try go_wp2_with fail
      refine hK.out _ _ ?_ (fun hHeld => ?_)
      · exact HS.out _ K2.out
      clear hK K
      refine wpAnyH_ready (rs := [44]) (by kernel_rfl) (by simp) ?_
      refine AllReadyH.cons rfl (fun K hK => ?_) AllReadyH.nil
      go_simp
      refine (CS.out _).mono ?_
      rintro e w2 ⟨rfl, b1⟩
      have K3 := Lib.hid (K2.out.trans (Below.onlyNew b1) (fun _ _ h => h))
      have Z' := Lib.hid (Z.out.only (Below.onlyNew b1) (fun h => h))
      clear b1 K2 Z
      have Z := Z'
      clear Z'
      try go_wp2_with fail
      refine hK.out _ _ ?_ (fun hHeld => ?_)
      · exact HS.out _ K3.out
      clear hK K
      refine takeH (i := 45) (d := 50) (v := .agg (ofLit m (.slice A L.length c) (.slice none 0 0))) (by kernel_rfl) (by kernel_rfl) (by kernel_rfl) rfl (fun _ _ _ h => h) (by rfl) ?_ hHeld ?_
      · intro o ho w hSw
        cases ho
        refine exec_build rfl ?_
        kernel_rfl
      simp only [Act.put, List.setIfInBounds_toArray, List.set_cons_zero, List.set_cons_succ]
      refine wpAnyH_ready (rs := [47]) (by kernel_rfl) (by simp) ?_
      refine AllReadyH.cons rfl (fun K hK => ?_) AllReadyH.nil
      rw [if_pos (by rfl)]
      refine wp_store_row 43 _ _ rfl (w.heap.size + 2) (ofLit m (.slice A L.length c) (.slice none 0 0)) rfl rfl 43 RZ Z.out Tryz.refMsgSize rfl (of_one m A none L.length c 0 0) ?_
      have KE := Lib.hid (K3.out.setRow (g := w.heap.size + 2) (fun h => by omega) (ofLit m (.slice A L.length c) (.slice none 0 0)))
      have NE := Lib.hid (Z.out.setRow (ofLit m (.slice A L.length c) (.slice none 0 0)))
      refine hK.out _ _ ?_ (fun hHeld => ?_)
      · exact HS.out _ KE.out
      clear hK K
      simp only [Act.put]
      refine wpAnyH_done (by kernel_rfl) ?_ _
      go_wp2_with fail
      go_meet
      case rel => exact ⟨_, rfl, hg, NE, KE⟩
  case rest =>
    obtain ⟨g, rfl, hg, ng, kg⟩ := hcut
    have I0 : Hid (∃ u, OInv w W g m (.slice A L.length c) 0 u wc) := Lib.hid ⟨_, ng.out, World.ownsRow_nil _ _ _ _, kg.out⟩
    clear ng kg CQ CS HS KD
    clear E0
    clear E1
    clear E2
    clear E3
    clear E4
    clear E5
    clear E6
    clear E7
    clear E8
    clear E9
    clear E10
    clear E16
    clear E17
    clear E18
    clear E19
    clear E20
    clear E21
    clear E11
    clear E22
    clear E13
    clear E23
    go_wp2_with fail
    go_loopw [4] (fun i wr => ∃ j : Nat, j ≤ (m 12).qs.length ∧ i = .int .i64 j ∧ Hid (∃ u, OInv w W g m (.slice A L.length c) j u wr)) (fun i _ => (m 12).qs.length - (intOf i).toNat)
    case atStart => exact ⟨0, Nat.zero_le _, rfl, I0⟩
    case round =>
      obtain ⟨j, hj, rfl, hrel⟩ := hrel
      clear I0
      obtain ⟨u, I⟩ := hrel.out
      obtain ⟨qd, d12⟩ := HX.out _ I.low
      by_cases hlt : j < (m 12).qs.length
      · obtain ⟨A', cq, hAe, _, _, hcs⟩ := qd
        injection hAe with hA hn hc
        subst hA hc
        obtain ⟨ad, rfl, hb1, hb2, hcl⟩ := hcs (by omega)
        obtain ⟨hcell, hcell1, hcell2⟩ := hcl j hlt
        have i0 : (0 : Int) ≤ (j : Int) := by omega
        have i1 : (j : Int) < ((m 12).qs.length : Int) := by omega
        obtain ⟨q, hq⟩ : ∃ q, q = (m 12).qs[j]'hlt := ⟨_, rfl⟩
        rw [← hq] at hcell hcell1 hcell2
        have C := Lib.hid (law3of_any q wr.drew)
        unfold Q3.val at C
        have hc : wr.cell? ⟨g, 12, none⟩ = some u := I.has.cell 12
        have hsz := I.low.size
        have HO : Hid (∀ w2, Below wr.drew.heap.size wr.drew w2 → w2.ownsRow (w.heap.size + 2) 39 3 u j (qidsV ((m 12).qs.take j)) ∧ w2.cell? ⟨g, 12, none⟩ = some u ∧ (w2.alloc (.cells #[.int .u8 (q.t : Int), .int .u32 (q.v : Int), .int .u64 (q.p : Int)] 39)).cell? ⟨g, 12, none⟩ = some u ∧ w.heap.size + 2 ≤ w2.heap.size) := Lib.hid (fun w2 k2 => by
          have k3 : Only (fun _ => False) wr w2 := (Only.refl (fun _ => False) wr).drew.trans (Below.onlyNew k2) (fun _ _ h => h)
          have := k3.size
          exact ⟨owns_only I.own k3 (fun _ _ h => h), (k3.cell (p := ⟨g, 12, none⟩) I.has.lt (fun h => h)).trans hc, ((k3.alloc _).cell (p := ⟨g, 12, none⟩) I.has.lt (fun h => h)).trans hc, by omega⟩)
        have HG := Lib.hid (fun (w2 w3 : World) (v' : Value) (k2 : Below wr.drew.heap.size wr.drew w2) a b d => I.step (w2 := w2) (w3 := w3) (v' := v') (q := q) (by omega) sW hlt hq.symm ((Only.refl (fun _ => False) wr).drew.trans (Below.onlyNew k2) (fun _ _ h => h)) a b d)
        have hm1 : j + 1 ≤ maxLen := by simp only [maxLen]; omega
        clear I hrel hcl hcs HX HA hq hb1 hb2
        go_wp2_with fail
        go_region_law (first
          | (refine step_append_lies _ (by rfl) _ _ _ (by rfl) (w.heap.size + 2) 39 i0' _ 3 16 Tryz.underlying38 hi0 hz0 hz1 hz22 rfl (by omega) _ _ _ (by rfl) (O2.out.alloc _) ⟨w2.heap.size, 0, none⟩ 1 1 (qidV q) (by rfl) (by rfl) (World.news_of_block (cs := #[.int .u8 (q.t : Int), .int .u32 (q.v : Int), .int .u64 (q.p : Int)]) (t := 39) (fr := (0, 0)) (heap_alloc_new w2 _)) (by simp [qidV, Value.oneCell']) (by omega) hm1 (by omega) (by simp; omega) (w2.heap.size + 1) (by simp) ?_; intro gg cap w3 hown1 hgrow hat hlt1; obtain ⟨⟨hc1, hf1⟩, R⟩ := HG.out w2 w3 _ K2.out hown1 hgrow (by rcases hat with h | h; exact .inl h.symm; exact .inr (congrArg some (by simpa using h))); clear hown1 hgrow hat)
          | (go_simp; go_at_call 25; refine C.out.mono ?_; rintro e w2 ⟨rfl, k2⟩; obtain ⟨o2, cL2, cL3, hs2⟩ := HO.out _ k2; have O2 := Lib.hid o2; have K2 := Lib.hid k2; clear o2 k2))
        all_goals
          go_wp2
          go_roundw
          case rel => exact ⟨j + 1, by omega, by go_num, Lib.hid ⟨_, R⟩⟩
          case measure => simp [intOf]; omega
      · have hj4 : j = (m 12).qs.length := by omega
        subst hj4
        obtain ⟨n10, r10, o10, ans⟩ := HA.out wr g u I
        have hi : ¬ ((m 12).qs.length : Int) < ((m 12).qs.length : Int) := by omega
        have N10 := Lib.hid n10
        have R10 := Lib.hid r10
        have O10 := Lib.hid o10
        have ANS := Lib.hid ans
        clear I hrel HX HA n10 r10 o10 ans
        go_wp2_with (first
          | (refine load_struct Tryz.underlying43 rfl Tryz.refMsgSize g _ (.tmp 3) rfl rfl rfl N10.out (of_size m _ _) ?_)
          | (refine store_struct Tryz.refMsgSize (w.heap.size + 1) _ (.tmp 2) (.tmp 69) rfl rfl rfl rfl R10.out rfl (of_size m _ _) O10.out ?_)
          | fail)
        refine bodyPost_ret (results_cell_row rfl _ _ (w.heap.size + 1) 43 _ (0, 0) _ rfl (R10.out.setRow _) Tryz.underlying43 rfl (by rw [of_size]; exact Tryz.refMsgSize)) rfl ?_
        exact ⟨_, rfl, ANS.out⟩
end Go.Proofs.YtepiifbleoimkaaGreatDoor
