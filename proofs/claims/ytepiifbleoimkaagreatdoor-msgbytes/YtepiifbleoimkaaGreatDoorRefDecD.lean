/-
  The second reading's fill: the lists.
-/
import Derived.Test.YtepiifbleoimkaaGreatDoorRefDecC
import Derived.Test.YtepiifbleoimkaaGreatDoorLaw5Of
import Derived.Deep.RegionLaw
namespace Go.Proofs.YtepiifbleoimkaaGreatDoor
open Go.RowKit
set_option maxRecDepth 100000

/-- At the loop's head: so many are taken. -/
structure LI {α : Type} (one : List UInt8 → Option (α × List UInt8)) (mk : List α → F) (B H g mb off n : Nat) (ty : TypeId) (sz : Nat) (cells : List α → List Value) (bs : List UInt8) (T : Option (List F × List UInt8)) (E0 : Prop) (done : List F) (cs : Array Value) (wb : World) (L : List α) (rest : List UInt8) (er : Int) (u : Value) (wr : World) : Prop where
  pre : er = 0 → E0
  rv : RV wr H g bs rest er
  row : Has wr mb 43 (cs.setIfInBounds off u)
  own : wr.ownsRow B ty sz u L.length (cells L)
  low : Only (fun i => i = g ∨ i = mb) wb wr
  yes : er = 0 → T = preL done ((preM L (tkMany one (n - L.length) rest)).map fun y => ([mk y.1], y.2))
  no : er ≠ 0 → T = none
  len : rest.length ≤ bs.length
theorem LI.step {α : Type} {one : List UInt8 → Option (α × List UInt8)} {mk : List α → F} {B H g mb off n : Nat} {ty : TypeId} {sz : Nat} {cells : List α → List Value} {bs : List UInt8} {T : Option (List F × List UInt8)} {E0 : Prop} {done : List F} {cs : Array Value} {wb : World} {L : List α} {rest r' : List UInt8} {er er' : Int} {u v' : Value} {wr w2 w3 : World} {x : α} {obj : Obj}
    (I : LI one mk B H g mb off n ty sz cells bs T E0 done cs wb L rest er u wr) (hB : B = wb.heap.size) (hg : H ≤ g ∧ g < mb ∧ mb < wb.heap.size) (hn : L.length < n) (rv2 : RV w2 H g bs r' er') (k2 : Only (fun i => i = g) wr w2) (hl : r'.length ≤ rest.length)
    (hy : er' = 0 → er = 0 ∧ one rest = some (x, r')) (hno : er' ≠ 0 → er ≠ 0 ∨ one rest = none) (hc : cells (L ++ [x]) = cells L ++ cells [x])
    (hown : w3.ownsRow B ty sz v' (L.length + 1) (cells L ++ cells [x])) (hgr : (w2.alloc obj).grownBy w3 u.ownBlock) (hnew : v'.ownBlock = u.ownBlock ∨ v'.ownBlock = some (w2.heap.size + 1)) :
    (w3.cell? ⟨mb, off, none⟩ = (cs.setIfInBounds off u)[off]? ∧ w3.frozen? ⟨mb, off, none⟩ = false) ∧ LI one mk B H g mb off n ty sz cells bs T E0 done cs wb (L ++ [x]) r' er' v' (w3.setCell ⟨mb, off, none⟩ v') := by
  have hs := I.low.size
  have hs2 := k2.size
  have hnb : ∀ i, u.ownBlock = some i → wb.heap.size ≤ i := fun i hi => by have := (I.own.lt i hi).1; omega
  have k3 : Only (fun i => some i = u.ownBlock) w2 w3 := ((Only.refl (fun i => some i = u.ownBlock) w2).alloc _).trans (Only.of_grown hgr) (fun _ _ h => h)
  have row2 := I.row.only k2 (by omega)
  have row3 := row2.only k3 (fun h => by have := hnb _ h.symm; omega)
  have hv : v'.ownBlock ≠ some mb := by
    rcases hnew with e | e
    · rw [e]; intro h; have := hnb _ h; omega
    · rw [e]; intro h; injection h with h; omega
  have kk : Only (fun i => i = g ∨ i = mb) wb w3 := (I.low.trans k2 (fun i _ h => .inl h)).trans k3 (fun i hi h => by have := hnb i h.symm; omega)
  refine ⟨⟨row3.cell off, row3.frozen off⟩, fun h => I.pre (hy h).1, ?_, ?_, ?_, kk.setCell (p := ⟨mb, off, none⟩) (fun _ => .inr rfl) v', fun h => ?_, fun h => ?_, by have := I.len; omega⟩
  · exact (rv2.only k3 (fun h => by have := hnb _ h.symm; omega) (fun i hi h => by have := hnb _ h.symm; omega)).only ((Only.refl (fun i => i = mb) w3).setCell (p := ⟨mb, off, none⟩) (fun _ => rfl) v') (by omega) (fun i hi h => by omega)
  · have := row3.set off v'
    rwa [Array.setIfInBounds_setIfInBounds] at this
  · rw [hc, List.length_append, List.length_singleton]
    exact owns_only hown ((Only.refl (fun i => i = mb) w3).setCell (p := ⟨mb, off, none⟩) (fun _ => rfl) v') (fun i hi h => hv (by rw [hi, h]))
  · obtain ⟨h0, h1⟩ := hy h
    rw [I.yes h0, show n - L.length = (n - (L ++ [x]).length) + 1 from by rw [List.length_append, List.length_singleton]; omega, tkMany_step h1]
  · rcases hno h with h0 | h1
    · exact I.no h0
    · by_cases h0 : er = 0
      · rw [I.yes h0, show n - L.length = (n - L.length - 1) + 1 from by omega, tkMany_stop h1]
        rfl
      · exact I.no h0
theorem LI.weak {α : Type} {one : List UInt8 → Option (α × List UInt8)} {mk : List α → F} {B H g mb off n : Nat} {ty : TypeId} {sz : Nat} {cells : List α → List Value} {bs : List UInt8} {T : Option (List F × List UInt8)} {E0 E1 : Prop} {done : List F} {cs : Array Value} {wb : World} {L : List α} {rest : List UInt8} {er : Int} {u : Value} {wr : World}
    (I : LI one mk B H g mb off n ty sz cells bs T E0 done cs wb L rest er u wr) (h : E0 → E1) : LI one mk B H g mb off n ty sz cells bs T E1 done cs wb L rest er u wr := ⟨fun e => h (I.pre e), I.rv, I.row, I.own, I.low, I.yes, I.no, I.len⟩
/-- Behind the loop. -/
theorem LI.fin {α : Type} {one : List UInt8 → Option (α × List UInt8)} {mk : List α → F} {B H g mb off n : Nat} {ty : TypeId} {sz : Nat} {cells : List α → List Value} {bs : List UInt8} {T : Option (List F × List UInt8)} {E0 : Prop} {done : List F} {cs : Array Value} {wb W wr0 : World} {L : List α} {rest r0 : List UInt8} {er er0 : Int} {u : Value} {wr : World} {k : K} {m : Nat → F}
    (I : LI one mk B H g mb off n ty sz cells bs T E0 done cs wb L rest er u wr) (c : FC W H g mb bs T done [k] r0 er0 cs m wr0) (k0 : Only (fun i => i = g) wr0 wb) (hn : L.length = n) (hp : (k, off) ∈ places) (hk1 : k.size = 1) (hk : (mk L).kind = k)
    (hat : RFAt wr W.heap.size wr.heap.size (cs.setIfInBounds off u) off (mk L)) (hok : er = 0 → er0 = 0 ∧ (mk L).Ok ∧ (mk L).Few) : FC W H g mb bs T (done ++ [mk L]) [] rest er (cs.setIfInBounds off u) (upd m off (mk L)) wr := by
  have hlt := c.lt
  have kk : Only (fun i => i = g ∨ i = mb) wr0 wr := (k0.mono (fun _ _ h => .inl h)).trans I.low (fun _ _ h => h)
  have hW := c.low.size
  refine ⟨I.rv, I.row, c.low.trans kk (fun _ _ h => h), c.mg.put hp hk kk.size (by simp) (kk.keeps (Nat.le_refl _) (fun i hi _ h => by omega)) hat (fun i hi => set_out (by rw [hk1] at hi; simp only at hi; omega) u), fun h => ?_, I.no, I.len, fun h => ?_, hlt⟩
  · rw [I.yes h, show n - L.length = 0 from by omega]
    simp [preM, preL, tkMany, tkL]
  · obtain ⟨h0, o1, o2⟩ := hok h
    intro q hq
    by_cases he : q.2 = off
    · rw [he, upd_same]
      exact ⟨o1, o2⟩
    · rw [upd_other _ _ he]
      exact c.ok h0 q hq
theorem tkE_text {r r' : List UInt8} {er : Int} {l : List UInt8} (h : tkE .text r er = some (.text l, r')) : er = 0 ∧ textSt r 0 = some (l, r') := by
  unfold tkE at h
  split at h
  · rename_i h0
    refine ⟨h0, ?_⟩
    obtain ⟨⟨a, b⟩, hx, h⟩ := Option.map_eq_some_iff.1 h
    injection h with h1 h2
    injection h1 with h1
    simp only at h1 h2
    rw [hx, h1, h2]
  · cases h
theorem tkE_text_no {r : List UInt8} {er : Int} (h : tkE .text r er = none) : er ≠ 0 ∨ textSt r 0 = none := by
  by_cases h0 : er = 0
  · right
    rw [tkE, if_pos h0] at h
    exact Option.map_eq_none_iff.1 h
  · exact .inl h0
theorem tkE_qid {r r' : List UInt8} {er : Int} {l : Q3} (h : tkE .qid r er = some (.qid l, r')) : er = 0 ∧ tkQ r = some (l, r') := by
  unfold tkE at h
  split at h
  · rename_i h0
    refine ⟨h0, ?_⟩
    obtain ⟨⟨a, b⟩, hx, h⟩ := Option.map_eq_some_iff.1 h
    injection h with h1 h2
    injection h1 with h1
    simp only at h1 h2
    rw [hx, h1, h2]
  · cases h
theorem tkE_qid_no {r : List UInt8} {er : Int} (h : tkE .qid r er = none) : er ≠ 0 ∨ tkQ r = none := by
  by_cases h0 : er = 0
  · right
    rw [tkE, if_pos h0] at h
    exact Option.map_eq_none_iff.1 h
  · exact .inl h0
theorem FC.texts_start {W wr w3 : World} {H g mb n : Nat} {bs r r3 : List UInt8} {T : Option (List F × List UInt8)} {done : List F} {er e3 : Int} {cs : Array Value} {m : Nat → F} (c : FC W H g mb bs T done [.texts] r er cs m wr) (hcs : cs.setIfInBounds 11 (.slice none 0 0) = cs) (rv3 : RV w3 H g bs r3 e3) (k3 : Only (fun i => i = g) wr w3) (hl : r3.length ≤ r.length) (h16 : n ≤ 16)
    (hy : e3 = 0 → er = 0 ∧ tkN 2 r = some (n, r3)) (hn : e3 ≠ 0 → n = 0 ∧ tkE .texts r er = none ∧ tkE .qids r er = none) :
    LI (fun b => textSt b 0) F.texts w3.heap.size H g mb 11 n 9 1 strsV bs T (er = 0) done cs w3 [] r3 e3 (.slice none 0 0) w3 := by
  refine ⟨fun h => (hy h).1, rv3, by rw [hcs]; exact c.row.only k3 (by have := c.lt; omega), World.ownsRow_nil _ _ _ _, Only.refl _ _, fun h => ?_, fun h => ?_, by have := c.len; omega⟩
  · obtain ⟨h0, h1⟩ := hy h
    rw [c.yes h0]
    have hF : tkF .texts r = (tkMany (fun b => textSt b 0) n r3).map fun x => (.texts x.1, x.2) := by
      show ((tkN 2 r).bind fun n => if 16 < n.1 then none else (tkMany (fun b => textSt b 0) n.1 n.2).map fun x => (F.texts x.1, x.2)) = _
      rw [h1, Option.bind_some, if_neg (by simp only; omega)]
    rw [tkL, hF, preM_nil]
    cases tkMany (fun b => textSt b 0) n r3 <;> simp [tkL]
  · by_cases h0 : er = 0
    · rw [c.yes h0]
      refine tkL_stop ?_
      have := (hn h).2.1
      rwa [tkE, if_pos h0] at this
    · exact c.no h0
theorem FC.qids_start {W wr w3 : World} {H g mb n : Nat} {bs r r3 : List UInt8} {T : Option (List F × List UInt8)} {done : List F} {er e3 : Int} {cs : Array Value} {m : Nat → F} (c : FC W H g mb bs T done [.qids] r er cs m wr) (hcs : cs.setIfInBounds 12 (.slice none 0 0) = cs) (rv3 : RV w3 H g bs r3 e3) (k3 : Only (fun i => i = g) wr w3) (hl : r3.length ≤ r.length) (h16 : n ≤ 16)
    (hy : e3 = 0 → er = 0 ∧ tkN 2 r = some (n, r3)) (hn : e3 ≠ 0 → n = 0 ∧ tkE .texts r er = none ∧ tkE .qids r er = none) :
    LI tkQ F.qids w3.heap.size H g mb 12 n 39 3 qidsV bs T (er = 0) done cs w3 [] r3 e3 (.slice none 0 0) w3 := by
  refine ⟨fun h => (hy h).1, rv3, by rw [hcs]; exact c.row.only k3 (by have := c.lt; omega), World.ownsRow_nil _ _ _ _, Only.refl _ _, fun h => ?_, fun h => ?_, by have := c.len; omega⟩
  · obtain ⟨h0, h1⟩ := hy h
    rw [c.yes h0]
    have hF : tkF .qids r = (tkMany tkQ n r3).map fun x => (.qids x.1, x.2) := by
      show ((tkN 2 r).bind fun n => if 16 < n.1 then none else (tkMany tkQ n.1 n.2).map fun x => (F.qids x.1, x.2)) = _
      rw [h1, Option.bind_some, if_neg (by simp only; omega)]
    rw [tkL, hF, preM_nil]
    cases tkMany tkQ n r3 <;> simp [tkL]
  · by_cases h0 : er = 0
    · rw [c.yes h0]
      refine tkL_stop ?_
      have := (hn h).2.2
      rwa [tkE, if_pos h0] at this
    · exact c.no h0
theorem list_texts {W wr0 wb wr : World} {H g mb N : Nat} {bs r0 rest : List UInt8} {ks : List K} {r : List UInt8} {done : List F} {er0 er : Int} {cs : Array Value} {m : Nat → F} {L : List (List UInt8)} {u : Value} (hn : L.length = N)
    (I : LI (fun b => textSt b 0) F.texts wb.heap.size H g mb 11 N 9 1 strsV bs (tkL ks r) (er0 = 0) done cs wb L rest er u wr) (c : FC W H g mb bs (tkL ks r) done [.texts] r0 er0 cs m wr0) (kb : Only (fun i => i = g) wr0 wb) (hks : ∀ k ∈ ks, k.Ok) :
    FC W H g mb bs (tkL ks r) (done ++ [.texts L]) [] rest er (cs.setIfInBounds 11 u) (upd m 11 (.texts L)) wr := by
  have hz := c.mg.size
  have hW := c.low.size
  have hb := kb.size
  refine I.fin c kb hn (by decide) rfl rfl ⟨u, set_in (by omega) u, ?_⟩ (fun h => ⟨I.pre h, ?_⟩)
  · exact (owns_strs I.own).wide (by omega) (Nat.le_refl _)
  · have hT := I.yes h
    rw [show N - L.length = 0 from by omega] at hT
    have hT2 : tkL ks r = some (done ++ [.texts L], rest) := by rw [hT]; simp [preM, preL, tkMany]
    obtain ⟨_, _, _, hf⟩ := tkL_some ks r rest _ hks hT2
    exact hf _ (by simp)
theorem list_qids {W wr0 wb wr : World} {H g mb N : Nat} {bs r0 rest : List UInt8} {ks : List K} {r : List UInt8} {done : List F} {er0 er : Int} {cs : Array Value} {m : Nat → F} {L : List (Q3)} {u : Value} (hn : L.length = N)
    (I : LI tkQ F.qids wb.heap.size H g mb 12 N 39 3 qidsV bs (tkL ks r) (er0 = 0) done cs wb L rest er u wr) (c : FC W H g mb bs (tkL ks r) done [.qids] r0 er0 cs m wr0) (kb : Only (fun i => i = g) wr0 wb) (hks : ∀ k ∈ ks, k.Ok) :
    FC W H g mb bs (tkL ks r) (done ++ [.qids L]) [] rest er (cs.setIfInBounds 12 u) (upd m 12 (.qids L)) wr := by
  have hz := c.mg.size
  have hW := c.low.size
  have hb := kb.size
  refine I.fin c kb hn (by decide) rfl rfl ⟨u, set_in (by omega) u, ?_⟩ (fun h => ⟨I.pre h, ?_⟩)
  · exact (owns_qids I.own).wide (by omega) (Nat.le_refl _)
  · have hT := I.yes h
    rw [show N - L.length = 0 from by omega] at hT
    have hT2 : tkL ks r = some (done ++ [.qids L], rest) := by rw [hT]; simp [preM, preL, tkMany]
    obtain ⟨_, _, _, hf⟩ := tkL_some ks r rest _ hks hT2
    exact hf _ (by simp)
theorem RV.drewd {w : World} {H g : Nat} {bs r : List UInt8} {er : Int} (h : RV w H g bs r er) : RV w.drew H g bs r er := h.only ((Only.refl (fun _ => False) w).drew) (fun h => h) (fun _ _ h => h)

set_option maxHeartbeats 1000000 in
theorem rfill_110 (H g : Nat) (bs r : List UInt8) (tag : Nat) (w : World) (h : RV w H g bs r 0) (hb : bs.length ≤ 100000) (hl : r.length ≤ bs.length) (htag : tag < 65536) :
    Calls Tryz.prog 20 #[.pointer (some ⟨g, 0, none⟩), .agg (rzCells 110 tag)] w (fun e w' => ∃ cs', e = .returned (.agg cs') ∧ FillAns w H g 110 tag bs (tkL [.num 4, .num 4, .texts] r) cs' w') := by
  obtain ⟨W, hW⟩ : ∃ W, W = (w.alloc (.cells (rzCells 110 tag) 43)).alloc (.cells #[.int .u8 0, .int .u16 0, .int .u32 0, .string ⟨#[]⟩, .int .u32 0, .int .u32 0, .int .u32 0, .string ⟨#[]⟩, .string ⟨#[]⟩, .string ⟨#[]⟩, .int .u16 0, .slice none 0 0, .slice none 0 0, .int .u8 0, .int .u32 0, .int .u64 0, .int .u32 0, .int .u8 0, .int .u32 0, .string ⟨#[]⟩, .int .u64 0, .int .u32 0, .string ⟨#[]⟩, .int .u16 0, .int .u32 0, .int .u8 0, .int .u32 0, .int .u64 0, .int .u32 0, .int .u32 0, .int .u32 0, .int .u64 0, .string ⟨#[]⟩, .string ⟨#[]⟩, .string ⟨#[]⟩, .string ⟨#[]⟩] 43) := ⟨_, rfl⟩
  have k0 : Only (fun _ => False) w W := by rw [hW]; exact ((Only.refl _ w).alloc _).alloc _
  have n0 : Has W w.heap.size 43 (rzCells 110 tag) := by rw [hW]; exact (Has.new w _ _).alloc _
  have r0 : Has W (w.heap.size + 1) 43 RZ := by
    rw [hW]
    have := Has.new (w.alloc (.cells (rzCells 110 tag) 43)) 43 #[.int .u8 0, .int .u16 0, .int .u32 0, .string ⟨#[]⟩, .int .u32 0, .int .u32 0, .int .u32 0, .string ⟨#[]⟩, .string ⟨#[]⟩, .string ⟨#[]⟩, .int .u16 0, .slice none 0 0, .slice none 0 0, .int .u8 0, .int .u32 0, .int .u64 0, .int .u32 0, .int .u8 0, .int .u32 0, .string ⟨#[]⟩, .int .u64 0, .int .u32 0, .string ⟨#[]⟩, .int .u16 0, .int .u32 0, .int .u8 0, .int .u32 0, .int .u64 0, .int .u32 0, .int .u32 0, .int .u32 0, .int .u64 0, .string ⟨#[]⟩, .string ⟨#[]⟩, .string ⟨#[]⟩, .string ⟨#[]⟩]
    show Has _ _ _ #[.int .u8 0, .int .u16 0, .int .u32 0, .string ⟨#[]⟩, .int .u32 0, .int .u32 0, .int .u32 0, .string ⟨#[]⟩, .string ⟨#[]⟩, .string ⟨#[]⟩, .int .u16 0, .slice none 0 0, .slice none 0 0, .int .u8 0, .int .u32 0, .int .u64 0, .int .u32 0, .int .u8 0, .int .u32 0, .string ⟨#[]⟩, .int .u64 0, .int .u32 0, .string ⟨#[]⟩, .int .u16 0, .int .u32 0, .int .u8 0, .int .u32 0, .int .u64 0, .int .u32 0, .int .u32 0, .int .u32 0, .int .u64 0, .string ⟨#[]⟩, .string ⟨#[]⟩, .string ⟨#[]⟩, .string ⟨#[]⟩]
    simpa using this
  have X0 := Lib.hid (FC.start (ks := [.num 4, .num 4, .texts]) h hl (by decide) htag k0 n0)
  have d0 : W.cell? ⟨w.heap.size, 0, none⟩ = some (.int .u8 110) := n0.cell 0
  have HF := Lib.hid (fun (wr : World) (rr : List UInt8) (er : Int) (cs : Array Value) (m : Nat → F) (done : List F) (c : FC W H g w.heap.size bs (tkL [.num 4, .num 4, .texts] r) done [] rr er cs m wr) hd h0 h1 => c.fin (t := 110) (tag := tag) k0 r0 hd h0 h1)
  have HW := Lib.hid hW.symm
  clear h n0 r0 k0 hW
  go_enter Tryz.func20, Tryz.ntmps20
  go_upto_region 1 with fail
  refine (show Code.wp _ _ _ _ ((w.alloc (.cells (rzCells 110 tag) 43)).alloc (.cells #[.int .u8 0, .int .u16 0, .int .u32 0, .string ⟨#[]⟩, .int .u32 0, .int .u32 0, .int .u32 0, .string ⟨#[]⟩, .string ⟨#[]⟩, .string ⟨#[]⟩, .int .u16 0, .slice none 0 0, .slice none 0 0, .int .u8 0, .int .u32 0, .int .u64 0, .int .u32 0, .int .u8 0, .int .u32 0, .string ⟨#[]⟩, .int .u64 0, .int .u32 0, .string ⟨#[]⟩, .int .u16 0, .int .u32 0, .int .u8 0, .int .u32 0, .int .u64 0, .int .u32 0, .int .u32 0, .int .u32 0, .int .u64 0, .string ⟨#[]⟩, .string ⟨#[]⟩, .string ⟨#[]⟩, .string ⟨#[]⟩] 43)) from ?_)
  rw [HW.out]
  clear HW
  go_wp2_with fail
  refine (fc_num 4 4 .u32 rfl (by decide) X0.out (by decide)).mono ?_
  rintro e w1 ⟨x1, r1, e1, rfl, hx1, ⟨⟨y1, c1⟩, f1⟩, Y⟩
  have u1' : IntKind.u32.wrap (x1 : Int) = (x1 : Int) := IntWalk.u32_in _ (by omega)
  have X1 := Lib.hid Y
  clear Y X0
  go_wp2_with fail
  refine (fc_num 4 6 .u32 rfl (by decide) X1.out (by decide)).mono ?_
  rintro e w2 ⟨x2, r2, e2, rfl, hx2, ⟨⟨y2, c2⟩, f2⟩, Y⟩
  have u2' : IntKind.u32.wrap (x2 : Int) = (x2 : Int) := IntWalk.u32_in _ (by omega)
  have X2 := Lib.hid Y
  clear Y X1
  go_wp2_with fail
  refine (rmany_any H g bs _ _ _ X2.out.rv).mono ?_
  rintro e wb ⟨N, rb, eb, rfl, h16, rvb, kb, hlb, hyb, hnb⟩
  have I0 : Hid (∃ rest er u, LI (fun b => textSt b 0) F.texts wb.heap.size H g w.heap.size 11 N 9 1 strsV bs (tkL [.num 4, .num 4, .texts] r) (e2 = 0) (([] ++ [F.num 4 x1]) ++ [F.num 4 x2]) (((rzCells 110 tag).setIfInBounds 4 (.int .u32 (x1 : Int))).setIfInBounds 6 (.int .u32 (x2 : Int))) wb [] rest er u wb) := Lib.hid ⟨rb, eb, _, X2.out.texts_start (by rfl) rvb kb hlb h16 hyb hnb⟩
  have HC := Lib.hid (fun (L : List (List UInt8)) (rest : List UInt8) (er : Int) (u : Value) (wr : World) (hn : L.length = N) (I : LI (fun b => textSt b 0) F.texts wb.heap.size H g w.heap.size 11 N 9 1 strsV bs (tkL [.num 4, .num 4, .texts] r) (e2 = 0) (([] ++ [F.num 4 x1]) ++ [F.num 4 x2]) (((rzCells 110 tag).setIfInBounds 4 (.int .u32 (x1 : Int))).setIfInBounds 6 (.int .u32 (x2 : Int))) wb L rest er u wr) => list_texts hn I X2.out kb (by intro k hk; simp only [List.mem_cons, List.not_mem_nil, or_false] at hk; rcases hk with rfl | rfl | rfl; exact ⟨by decide, by decide⟩; exact ⟨by decide, by decide⟩; trivial))
  have hWb := X2.out.low.size
  have hkb := kb.size
  have hltb := X2.out.lt
  have hHgb := rvb.lt.1
  obtain ⟨i0', hi0, hz0, hz1, hz22⟩ := info_parts Tryz.infoString
  clear rvb kb hlb hyb hnb X2
  go_wp2_with fail
  go_loopw [6] (fun i wr => ∃ L : List (List UInt8), L.length ≤ N ∧ i = .int .i64 (L.length : Nat) ∧ Hid (∃ rest er u, LI (fun b => textSt b 0) F.texts wb.heap.size H g w.heap.size 11 N 9 1 strsV bs (tkL [.num 4, .num 4, .texts] r) (e2 = 0) (([] ++ [F.num 4 x1]) ++ [F.num 4 x2]) (((rzCells 110 tag).setIfInBounds 4 (.int .u32 (x1 : Int))).setIfInBounds 6 (.int .u32 (x2 : Int))) wb L rest er u wr)) (fun i _ => N - (intOf i).toNat)
  case atStart => exact ⟨[], Nat.zero_le _, rfl, I0⟩
  case round =>
    obtain ⟨L, hj, rfl, hrel⟩ := hrel
    clear I0
    obtain ⟨rest, er, u, I⟩ := hrel.out
    by_cases hlt : L.length < N
    · have i1 : ((L.length : Nat) : Int) < (N : Int) := by omega
      have hc : wr.cell? ⟨w.heap.size, 11, none⟩ = some u := (I.row.cell 11).trans (by rfl)
      have hsz := I.low.size
      have C := Lib.hid (rintext_any H g bs rest er wr.drew I.rv.drewd hb)
      have HO : Hid (∀ (x : List UInt8) (w2 : World), Only (fun i => i = g) wr.drew w2 → w2.ownsRow wb.heap.size 9 1 u L.length (strsV L) ∧ w2.cell? ⟨w.heap.size, 11, none⟩ = some u ∧ (w2.alloc (.cells #[.string (strOf x)] 9)).cell? ⟨w.heap.size, 11, none⟩ = some u ∧ wb.heap.size ≤ w2.heap.size) := Lib.hid (fun x w2 k2 => by
        have k3 : Only (fun i => i = g) wr w2 := (Only.refl (fun i => i = g) wr).drew.trans k2 (fun _ _ h => h)
        have := k3.size
        exact ⟨owns_only I.own k3 (fun i hi h => by have := (I.own.lt i hi).1; omega), (k3.cell (p := ⟨w.heap.size, 11, none⟩) I.row.lt (by simp only; omega)).trans hc, ((k3.alloc _).cell (p := ⟨w.heap.size, 11, none⟩) I.row.lt (by simp only; omega)).trans hc, by omega⟩)
      have HG := Lib.hid (fun (x : List UInt8) (r' : List UInt8) (er' : Int) (w2 w3 : World) (v' : Value) (k2 : Only (fun i => i = g) wr.drew w2) rv2 hl hy hno a b d => I.step (x := x) (r' := r') (er' := er') (obj := (.cells #[.string (strOf x)] 9)) (w2 := w2) (w3 := w3) (v' := v') rfl ⟨hHgb, hltb.1, by omega⟩ hlt rv2 ((Only.refl (fun i => i = g) wr).drew.trans k2 (fun _ _ h => h)) hl hy hno (by simp [strsV]) a b d)
      have hm1 : L.length + 1 ≤ maxLen := by simp only [maxLen]; omega
      clear I hrel HC HF
      go_wp2_with fail
      go_region_law (first
        | (refine step_append_lies _ (by rfl) _ _ _ (by rfl) wb.heap.size 9 i0' _ 1 16 Tryz.underlying26 hi0 hz0 hz1 hz22 rfl (by omega) _ _ _ (by rfl) (O2.out.alloc _) ⟨w2.heap.size, 0, none⟩ 1 1 [.string (strOf x)] (by rfl) (by rfl) (World.news_of_block (cs := #[.string (strOf x)]) (t := 9) (fr := (0, 0)) (heap_alloc_new w2 _)) (by simp [Value.oneCell']) (by omega) hm1 (by omega) (by simp; omega) (w2.heap.size + 1) (by simp) ?_; intro gg cap w3 hown1 hgrow hat hlt1; obtain ⟨⟨hc0, hf1⟩, R⟩ := HG.out x r' er' w2 w3 _ K2.out RV2.out hl2 (fun h => tkE_text (HY.out h)) (fun h => tkE_text_no (HN.out h)) hown1 hgrow (by rcases hat with h | h; exact .inl h.symm; exact .inr (congrArg some (by simpa using h))); have hc1 : w3.cell? ⟨w.heap.size, 11, none⟩ = some u := hc0.trans (by rfl); clear hc0 hown1 hgrow hat HY HN RV2)
        | (go_simp; go_at_call 41; refine C.out.mono ?_; rintro e w2 ⟨f, v, r', er', rfl, hf, hv, rv2, k2, hl2, hy2, hn2⟩; obtain ⟨x, rfl⟩ := kind_text hf; have hv : v = .string (strOf x) := hv; subst hv; obtain ⟨o2, cL2, cL3, hs2⟩ := HO.out x _ k2; have O2 := Lib.hid o2; have K2 := Lib.hid k2; have RV2 := Lib.hid rv2; have HY := Lib.hid hy2; have HN := Lib.hid hn2; clear o2 k2 rv2 hy2 hn2 hf))
      all_goals
        go_wp2
        go_roundw
        case rel => exact ⟨L ++ [x], by rw [List.length_append, List.length_singleton]; omega, by rw [List.length_append, List.length_singleton]; go_num, Lib.hid ⟨_, _, _, R⟩⟩
        case measure => simp [intOf]; omega
    · have hj4 : L.length = N := by omega
      have X := HC.out L rest er u wr hj4 I
      have hi : ¬ ((L.length : Nat) : Int) < (N : Int) := by omega
      clear I hrel HC
      obtain ⟨n9, z9, o9, r9, ans⟩ := HF.out _ _ _ _ _ _ X rfl rfl rfl
      have N9 := Lib.hid n9
      have Z9 := Lib.hid z9
      have O9 := Lib.hid o9
      have R9 := Lib.hid r9
      have ANS := Lib.hid ans
      clear n9 z9 o9 r9 ans X HF
      go_wp2_with (first
        | (refine load_struct Tryz.underlying43 rfl Tryz.refMsgSize w.heap.size _ (.tmp 3) rfl rfl rfl N9.out Z9.out ?_)
        | (refine store_struct Tryz.refMsgSize (w.heap.size + 1) _ (.tmp 4) (.tmp 201) rfl rfl rfl rfl R9.out rfl Z9.out O9.out ?_)
        | fail)
      refine bodyPost_ret (results_cell_row rfl _ _ (w.heap.size + 1) 43 _ (0, 0) _ rfl (R9.out.setRow _) Tryz.underlying43 rfl (by rw [Z9.out]; exact Tryz.refMsgSize)) rfl ?_
      exact ⟨_, rfl, ANS.out⟩

set_option maxHeartbeats 1000000 in
theorem rfill_111 (H g : Nat) (bs r : List UInt8) (tag : Nat) (w : World) (h : RV w H g bs r 0) (_hb : bs.length ≤ 100000) (hl : r.length ≤ bs.length) (htag : tag < 65536) :
    Calls Tryz.prog 20 #[.pointer (some ⟨g, 0, none⟩), .agg (rzCells 111 tag)] w (fun e w' => ∃ cs', e = .returned (.agg cs') ∧ FillAns w H g 111 tag bs (tkL [.qids] r) cs' w') := by
  obtain ⟨W, hW⟩ : ∃ W, W = (w.alloc (.cells (rzCells 111 tag) 43)).alloc (.cells #[.int .u8 0, .int .u16 0, .int .u32 0, .string ⟨#[]⟩, .int .u32 0, .int .u32 0, .int .u32 0, .string ⟨#[]⟩, .string ⟨#[]⟩, .string ⟨#[]⟩, .int .u16 0, .slice none 0 0, .slice none 0 0, .int .u8 0, .int .u32 0, .int .u64 0, .int .u32 0, .int .u8 0, .int .u32 0, .string ⟨#[]⟩, .int .u64 0, .int .u32 0, .string ⟨#[]⟩, .int .u16 0, .int .u32 0, .int .u8 0, .int .u32 0, .int .u64 0, .int .u32 0, .int .u32 0, .int .u32 0, .int .u64 0, .string ⟨#[]⟩, .string ⟨#[]⟩, .string ⟨#[]⟩, .string ⟨#[]⟩] 43) := ⟨_, rfl⟩
  have k0 : Only (fun _ => False) w W := by rw [hW]; exact ((Only.refl _ w).alloc _).alloc _
  have n0 : Has W w.heap.size 43 (rzCells 111 tag) := by rw [hW]; exact (Has.new w _ _).alloc _
  have r0 : Has W (w.heap.size + 1) 43 RZ := by
    rw [hW]
    have := Has.new (w.alloc (.cells (rzCells 111 tag) 43)) 43 #[.int .u8 0, .int .u16 0, .int .u32 0, .string ⟨#[]⟩, .int .u32 0, .int .u32 0, .int .u32 0, .string ⟨#[]⟩, .string ⟨#[]⟩, .string ⟨#[]⟩, .int .u16 0, .slice none 0 0, .slice none 0 0, .int .u8 0, .int .u32 0, .int .u64 0, .int .u32 0, .int .u8 0, .int .u32 0, .string ⟨#[]⟩, .int .u64 0, .int .u32 0, .string ⟨#[]⟩, .int .u16 0, .int .u32 0, .int .u8 0, .int .u32 0, .int .u64 0, .int .u32 0, .int .u32 0, .int .u32 0, .int .u64 0, .string ⟨#[]⟩, .string ⟨#[]⟩, .string ⟨#[]⟩, .string ⟨#[]⟩]
    show Has _ _ _ #[.int .u8 0, .int .u16 0, .int .u32 0, .string ⟨#[]⟩, .int .u32 0, .int .u32 0, .int .u32 0, .string ⟨#[]⟩, .string ⟨#[]⟩, .string ⟨#[]⟩, .int .u16 0, .slice none 0 0, .slice none 0 0, .int .u8 0, .int .u32 0, .int .u64 0, .int .u32 0, .int .u8 0, .int .u32 0, .string ⟨#[]⟩, .int .u64 0, .int .u32 0, .string ⟨#[]⟩, .int .u16 0, .int .u32 0, .int .u8 0, .int .u32 0, .int .u64 0, .int .u32 0, .int .u32 0, .int .u32 0, .int .u64 0, .string ⟨#[]⟩, .string ⟨#[]⟩, .string ⟨#[]⟩, .string ⟨#[]⟩]
    simpa using this
  have X0 := Lib.hid (FC.start (ks := [.qids]) h hl (by decide) htag k0 n0)
  have d0 : W.cell? ⟨w.heap.size, 0, none⟩ = some (.int .u8 111) := n0.cell 0
  have HF := Lib.hid (fun (wr : World) (rr : List UInt8) (er : Int) (cs : Array Value) (m : Nat → F) (done : List F) (c : FC W H g w.heap.size bs (tkL [.qids] r) done [] rr er cs m wr) hd h0 h1 => c.fin (t := 111) (tag := tag) k0 r0 hd h0 h1)
  have HW := Lib.hid hW.symm
  clear h n0 r0 k0 hW
  go_enter Tryz.func20, Tryz.ntmps20
  go_upto_region 1 with fail
  refine (show Code.wp _ _ _ _ ((w.alloc (.cells (rzCells 111 tag) 43)).alloc (.cells #[.int .u8 0, .int .u16 0, .int .u32 0, .string ⟨#[]⟩, .int .u32 0, .int .u32 0, .int .u32 0, .string ⟨#[]⟩, .string ⟨#[]⟩, .string ⟨#[]⟩, .int .u16 0, .slice none 0 0, .slice none 0 0, .int .u8 0, .int .u32 0, .int .u64 0, .int .u32 0, .int .u8 0, .int .u32 0, .string ⟨#[]⟩, .int .u64 0, .int .u32 0, .string ⟨#[]⟩, .int .u16 0, .int .u32 0, .int .u8 0, .int .u32 0, .int .u64 0, .int .u32 0, .int .u32 0, .int .u32 0, .int .u64 0, .string ⟨#[]⟩, .string ⟨#[]⟩, .string ⟨#[]⟩, .string ⟨#[]⟩] 43)) from ?_)
  rw [HW.out]
  clear HW
  go_wp2_with fail
  refine (rmany_any H g bs _ _ _ X0.out.rv).mono ?_
  rintro e wb ⟨N, rb, eb, rfl, h16, rvb, kb, hlb, hyb, hnb⟩
  have I0 : Hid (∃ rest er u, LI tkQ F.qids wb.heap.size H g w.heap.size 12 N 39 3 qidsV bs (tkL [.qids] r) (True) [] (rzCells 111 tag) wb [] rest er u wb) := Lib.hid ⟨rb, eb, _, (X0.out.qids_start (by rfl) rvb kb hlb h16 hyb hnb).weak (fun _ => trivial)⟩
  have HC := Lib.hid (fun (L : List Q3) (rest : List UInt8) (er : Int) (u : Value) (wr : World) (hn : L.length = N) (I : LI tkQ F.qids wb.heap.size H g w.heap.size 12 N 39 3 qidsV bs (tkL [.qids] r) (True) [] (rzCells 111 tag) wb L rest er u wr) => list_qids hn (I.weak (fun _ => rfl)) X0.out kb (by intro k hk; simp only [List.mem_cons, List.not_mem_nil, or_false] at hk; subst hk; trivial))
  have hWb := X0.out.low.size
  have hkb := kb.size
  have hltb := X0.out.lt
  have hHgb := rvb.lt.1
  obtain ⟨i0', hi0, hz0, hz1, hz22⟩ := info_parts Tryz.infoRefQid
  clear rvb kb hlb hyb hnb X0
  go_wp2_with fail
  go_loopw [8] (fun i wr => ∃ L : List Q3, L.length ≤ N ∧ i = .int .i64 (L.length : Nat) ∧ Hid (∃ rest er u, LI tkQ F.qids wb.heap.size H g w.heap.size 12 N 39 3 qidsV bs (tkL [.qids] r) (True) [] (rzCells 111 tag) wb L rest er u wr)) (fun i _ => N - (intOf i).toNat)
  case atStart => exact ⟨[], Nat.zero_le _, rfl, I0⟩
  case round =>
    obtain ⟨L, hj, rfl, hrel⟩ := hrel
    clear I0
    obtain ⟨rest, er, u, I⟩ := hrel.out
    by_cases hlt : L.length < N
    · have i1 : ((L.length : Nat) : Int) < (N : Int) := by omega
      have hc : wr.cell? ⟨w.heap.size, 12, none⟩ = some u := (I.row.cell 12).trans (by rfl)
      have hsz := I.low.size
      have C := Lib.hid (rinqid_any H g bs rest er wr.drew I.rv.drewd)
      have HO : Hid (∀ (x : Q3) (w2 : World), Only (fun i => i = g) wr.drew w2 → w2.ownsRow wb.heap.size 39 3 u L.length (qidsV L) ∧ w2.cell? ⟨w.heap.size, 12, none⟩ = some u ∧ (w2.alloc (.cells #[.int .u8 (x.t : Int), .int .u32 (x.v : Int), .int .u64 (x.p : Int)] 39)).cell? ⟨w.heap.size, 12, none⟩ = some u ∧ wb.heap.size ≤ w2.heap.size) := Lib.hid (fun x w2 k2 => by
        have k3 : Only (fun i => i = g) wr w2 := (Only.refl (fun i => i = g) wr).drew.trans k2 (fun _ _ h => h)
        have := k3.size
        exact ⟨owns_only I.own k3 (fun i hi h => by have := (I.own.lt i hi).1; omega), (k3.cell (p := ⟨w.heap.size, 12, none⟩) I.row.lt (by simp only; omega)).trans hc, ((k3.alloc _).cell (p := ⟨w.heap.size, 12, none⟩) I.row.lt (by simp only; omega)).trans hc, by omega⟩)
      have HG := Lib.hid (fun (x : Q3) (r' : List UInt8) (er' : Int) (w2 w3 : World) (v' : Value) (k2 : Only (fun i => i = g) wr.drew w2) rv2 hl hy hno a b d => I.step (x := x) (r' := r') (er' := er') (obj := (.cells #[.int .u8 (x.t : Int), .int .u32 (x.v : Int), .int .u64 (x.p : Int)] 39)) (w2 := w2) (w3 := w3) (v' := v') rfl ⟨hHgb, hltb.1, by omega⟩ hlt rv2 ((Only.refl (fun i => i = g) wr).drew.trans k2 (fun _ _ h => h)) hl hy hno (by simp [qidsV]) a b d)
      have hm1 : L.length + 1 ≤ maxLen := by simp only [maxLen]; omega
      clear I hrel HC HF
      go_wp2_with fail
      go_region_law (first
        | (refine step_append_lies _ (by rfl) _ _ _ (by rfl) wb.heap.size 39 i0' _ 3 16 Tryz.underlying38 hi0 hz0 hz1 hz22 rfl (by omega) _ _ _ (by rfl) (O2.out.alloc _) ⟨w2.heap.size, 0, none⟩ 1 1 (qidV x) (by rfl) (by rfl) (World.news_of_block (cs := #[.int .u8 (x.t : Int), .int .u32 (x.v : Int), .int .u64 (x.p : Int)]) (t := 39) (fr := (0, 0)) (heap_alloc_new w2 _)) (by simp [qidV, Value.oneCell']) (by omega) hm1 (by omega) (by simp; omega) (w2.heap.size + 1) (by simp) ?_; intro gg cap w3 hown1 hgrow hat hlt1; obtain ⟨⟨hc0, hf1⟩, R⟩ := HG.out x r' er' w2 w3 _ K2.out RV2.out hl2 (fun h => tkE_qid (HY.out h)) (fun h => tkE_qid_no (HN.out h)) hown1 hgrow (by rcases hat with h | h; exact .inl h.symm; exact .inr (congrArg some (by simpa using h))); have hc1 : w3.cell? ⟨w.heap.size, 12, none⟩ = some u := hc0.trans (by rfl); clear hc0 hown1 hgrow hat HY HN RV2)
        | (go_simp; go_at_call 42; refine C.out.mono ?_; rintro e w2 ⟨f, v, r', er', rfl, hf, hv, rv2, k2, hl2, hy2, hn2⟩; obtain ⟨x, rfl⟩ := kind_qid hf; have hv : v = .agg #[.int .u8 (x.t : Int), .int .u32 (x.v : Int), .int .u64 (x.p : Int)] := hv; subst hv; obtain ⟨o2, cL2, cL3, hs2⟩ := HO.out x _ k2; have O2 := Lib.hid o2; have K2 := Lib.hid k2; have RV2 := Lib.hid rv2; have HY := Lib.hid hy2; have HN := Lib.hid hn2; clear o2 k2 rv2 hy2 hn2 hf))
      all_goals
        go_wp2
        go_roundw
        case rel => exact ⟨L ++ [x], by rw [List.length_append, List.length_singleton]; omega, by rw [List.length_append, List.length_singleton]; go_num, Lib.hid ⟨_, _, _, R⟩⟩
        case measure => simp [intOf]; omega
    · have hj4 : L.length = N := by omega
      have X := HC.out L rest er u wr hj4 I
      have hi : ¬ ((L.length : Nat) : Int) < (N : Int) := by omega
      clear I hrel HC
      obtain ⟨n9, z9, o9, r9, ans⟩ := HF.out _ _ _ _ _ _ X rfl rfl rfl
      have N9 := Lib.hid n9
      have Z9 := Lib.hid z9
      have O9 := Lib.hid o9
      have R9 := Lib.hid r9
      have ANS := Lib.hid ans
      clear n9 z9 o9 r9 ans X HF
      go_wp2_with (first
        | (refine load_struct Tryz.underlying43 rfl Tryz.refMsgSize w.heap.size _ (.tmp 3) rfl rfl rfl N9.out Z9.out ?_)
        | (refine store_struct Tryz.refMsgSize (w.heap.size + 1) _ (.tmp 4) (.tmp 201) rfl rfl rfl rfl R9.out rfl Z9.out O9.out ?_)
        | fail)
      refine bodyPost_ret (results_cell_row rfl _ _ (w.heap.size + 1) 43 _ (0, 0) _ rfl (R9.out.setRow _) Tryz.underlying43 rfl (by rw [Z9.out]; exact Tryz.refMsgSize)) rfl ?_
      exact ⟨_, rfl, ANS.out⟩
end Go.Proofs.YtepiifbleoimkaaGreatDoor
