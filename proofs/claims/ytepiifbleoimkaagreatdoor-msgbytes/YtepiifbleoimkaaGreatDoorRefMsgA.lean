/-
  The second reading's out: a number, a text, a qid, a record added.
-/
import Derived.Test.YtepiifbleoimkaaGreatDoorPackMsgC
import Derived.Test.YtepiifbleoimkaaGreatDoorRefStatC
import Derived.Deep.RegionLaw
namespace Go.Proofs.YtepiifbleoimkaaGreatDoor
open Go.RowKit
set_option maxRecDepth 100000

/-- An out at g, with its bytes and its first error. -/
structure ROutAt (w : World) (B g : Nat) (v : Value) (bs : List UInt8) (bad : Int) : Prop where
  has : Has w g 66 #[v, .int .i64 bad]
  own : w.ownsRow B 5 1 v bs.length (b8s bs)
  low : B ≤ g
def ROutStep (w : World) (B g : Nat) (v : Value) (bs : List UInt8) (bad : Int) (e : Ending) (w' : World) : Prop :=
  ∃ v', e = .returned (.tuple #[]) ∧ ROutAt w' B g v' bs bad ∧ Only (Foot g v) w w' ∧ ∀ i, v'.ownBlock = some i → v.ownBlock = some i ∨ w.heap.size ≤ i
theorem ROutAt.only {a b : World} {S : Nat → Prop} {B g : Nat} {v : Value} {bs : List UInt8} {bad : Int} (h : ROutAt a B g v bs bad) (k : Only S a b) (hn : ∀ i, Foot g v i → ¬ S i) : ROutAt b B g v bs bad :=
  ⟨h.has.only k (hn g (.inl rfl)), owns_only h.own k (fun i hi => hn i (.inr hi)), h.low⟩
theorem ROutAt.foot_lt {a : World} {B g : Nat} {v : Value} {bs : List UInt8} {bad : Int} (h : ROutAt a B g v bs bad) {i : Nat} (hi : Foot g v i) : B ≤ i ∧ i < a.heap.size := by
  rcases hi with rfl | hi
  · exact ⟨h.low, h.has.lt⟩
  · exact h.own.lt i hi
theorem rout_grown {w w1 w2 : World} {B g : Nat} {v v' : Value} {bs bs' : List UInt8} {bad : Int} (h : ROutAt w B g v bs bad) (k : Only (fun _ => False) w w1) (h1 : w2.ownsRow B 5 1 v' bs'.length (b8s bs')) (h2 : w1.grownBy w2 v.ownBlock)
    (h3 : v'.ownBlock = v.ownBlock ∨ v'.ownBlock = some w1.heap.size) :
    Has w2 g 66 #[v, .int .i64 bad] ∧ ROutStep w B g v bs' bad (.returned (.tuple #[])) (w2.setCell ⟨g, 0, none⟩ v') := by
  have hne : some g ≠ v.ownBlock := owns_ne h.own h.has (by decide)
  have hlt := h.has.lt
  have hk := k.size
  have k2 : Only (fun i => some i = v.ownBlock) w1 w2 := Only.of_grown h2
  have a2 : Has w2 g 66 #[v, .int .i64 bad] := (h.has.only k (fun h => h)).only k2 hne
  have hv' : v'.ownBlock ≠ some g := by
    intro hh
    rcases h3 with e | e
    · exact hne (by rw [← e, hh])
    · rw [e] at hh
      injection hh with hh
      omega
  refine ⟨a2, v', rfl, ⟨a2.set 0 v', ?_, h.low⟩, ?_, ?_⟩
  · exact owns_only h1 ((Only.refl (fun i => i = g) w2).setCell (p := ⟨g, 0, none⟩) (fun _ => rfl) v') (fun i hi hg => hv' (by rw [hi, hg]))
  · exact ((k.mono (fun _ _ h => h.elim)).trans k2 (fun i _ hi => .inr hi.symm)).setCell (p := ⟨g, 0, none⟩) (fun _ => .inl rfl) v'
  · intro i hi
    rcases h3 with e | e
    · exact .inl (by rw [← e]; exact hi)
    · rw [e] at hi
      injection hi with hi
      exact .inr (by omega)

set_option maxHeartbeats 2000000 in
theorem rnum_any (B g : Nat) (v : Value) (bs : List UInt8) (bad n x : Int) (w : World) (h : ROutAt w B g v bs bad) (hx : 0 ≤ x) (hl : bs.length ≤ 1000000) :
    Calls Tryz.prog 46 #[.pointer (some ⟨g, 0, none⟩), .int .i64 n, .int .u64 x] w (ROutStep w B g v (bs ++ putI n x) bad) := by
  obtain ⟨i0, hi0, hz0, hz1, hz2⟩ := info_parts Tryz.info8
  have hc : w.cell? ⟨g, 0, none⟩ = some v := by have := h.has.cell 0; simpa using this
  have hb : B ≤ w.heap.size := Nat.le_trans h.low (Nat.le_of_lt h.has.lt)
  have C := Lib.hid (refnum_any n x w.drew hx)
  have hpl := putI_length n x
  have HS : Hid (∀ w2, Below w.drew.heap.size w.drew w2 → w2.ownsRow B 5 1 v bs.length (b8s bs) ∧ w2.cell? ⟨g, 0, none⟩ = some v ∧ B ≤ w2.heap.size) := by
    intro w2 k
    have k' : Only (fun _ => False) w w2 := (Only.refl (fun _ => False) w).drew.trans (Below.onlyNew k) (fun _ _ h => h)
    exact ⟨owns_only h.own k' (fun _ _ h => h), (k'.cell (p := ⟨g, 0, none⟩) h.has.lt (fun h => h)).trans hc, by have := k'.size; omega⟩
  have HG := Lib.hid (fun (w2 w3 : World) (v' : Value) (k : Below w.drew.heap.size w.drew w2) a b c => rout_grown (w1 := w2) (w2 := w3) (v' := v') (bs' := bs ++ putI n x) h ((Only.refl (fun _ => False) w).drew.trans (Below.onlyNew k) (fun _ _ h => h)) a b c)
  obtain ⟨A, c, rfl, _⟩ := owns_slice h.own
  generalize putI n x = xs at C hpl HG
  clear h
  go_enter Tryz.func46, Tryz.ntmps46
  go_wp2_with fail
  go_region_law (first
    | (refine step_append_bytes _ (by rfl) _ _ _ (by rfl) B 5 i0 Tryz.underlying22 hi0 hz0 hz1 hz2 _ bs xs (by rfl) O2.out _ _ _ (by rfl) X2.out (by rw [List.length_append]; omega) hb2 ?_; intro v3 w3 a3 g3 e3; obtain ⟨m3, r3⟩ := HG.out w2 w3 v3 K2.out a3 g3 e3; have hc3 : w3.cell? ⟨g, 0, none⟩ = _ := m3.cell 0; have hf3 := m3.frozen 0; obtain ⟨A3, x3, rfl, _⟩ := owns_slice a3; have R := Lib.hid r3; clear a3 g3 e3 m3 r3)
    | (go_simp; go_at_call 72; refine C.out.mono ?_; rintro e w2 ⟨u, rfl, ow, k2⟩; obtain ⟨o2, cL2, hb2⟩ := HS.out _ k2; have O2 := Lib.hid o2; have X2 := Lib.hid (owns_SlIs ow); have K2 := Lib.hid k2; obtain ⟨A2, c2, rfl, _⟩ := owns_slice ow; clear o2 k2 ow))
  all_goals
    go_wp2
    go_end0
    rw [← List.length_append]
    exact R.out

theorem ROutStep.after {w w2 w3 : World} {B g : Nat} {v : Value} {bs : List UInt8} {bad : Int} {e : Ending} (k : Only (Foot g v) w w2) (st : ROutStep w2 B g v bs bad e w3) : ROutStep w B g v bs bad e w3 := by
  obtain ⟨v', he, o, f, q⟩ := st
  have := k.size
  exact ⟨v', he, o, k.trans f (fun _ _ h => h), fun i hi => by
    rcases q i hi with h | h
    · exact .inl h
    · exact .inr (by omega)⟩
/-- The first error stays. -/
def nextBad (bad e : Int) : Int := if bad = 0 then e else bad

set_option maxHeartbeats 2000000 in
theorem rappend_any (B g : Nat) (v x : Value) (bs xs : List UInt8) (bad : Int) (lo hi : Nat) (w : World) (h : ROutAt w B g v bs bad) (hx : SlIs w lo hi x xs) (hl : (bs ++ xs).length ≤ 140737488355328) :
    ∃ v' w1, (Builtin.append_ #[22, 22] 22 #[v, x]).run Tryz.prog w = .ok v' w1 ∧ w1.cell? ⟨g, 0, none⟩ = some v ∧ w1.frozen? ⟨g, 0, none⟩ = false ∧ (∃ A c, v' = .slice A (bs ++ xs).length c) ∧ ROutStep w B g v (bs ++ xs) bad (.returned (.tuple #[])) (w1.setCell ⟨g, 0, none⟩ v') := by
  obtain ⟨i0, hi0, hz0, hz1, hz2⟩ := info_parts Tryz.info8
  have hb : B ≤ w.heap.size := Nat.le_trans h.low (Nat.le_of_lt h.has.lt)
  obtain ⟨v', w1, hr, h1, h2, h3⟩ := run_append_bytes (P := Tryz.prog) w B 22 22 5 i0 Tryz.underlying22 hi0 hz0 hz1 hz2 v bs xs h.own lo hi x hx hl hb
  obtain ⟨m1, r1⟩ := rout_grown h (Only.refl _ w) h1 h2 h3
  obtain ⟨A, c, hv, _⟩ := owns_slice h1
  exact ⟨v', w1, hr, by have := m1.cell 0; simpa using this, m1.frozen 0, ⟨A, c, hv⟩, r1⟩

set_option maxHeartbeats 2000000 in
theorem rtext_any (B g : Nat) (v : Value) (bs l : List UInt8) (bad : Int) (w : World) (h : ROutAt w B g v bs bad) (hl : l.length ≤ 1000) (hb : bs.length ≤ 1000000) :
    Calls Tryz.prog 47 #[.pointer (some ⟨g, 0, none⟩), .string (strOf l)] w (ROutStep w B g v (bs ++ textB l) (nextBad bad (wrongOf l))) := by
  have C := reftextS_any l w (by omega)
  unfold RTextS at C
  have C' := Lib.hid C
  have htl := textB_le l
  have HO := Lib.hid h
  have hft : ∀ i, Foot g v i → i < w.heap.size := fun i hi => (h.foot_lt hi).2
  obtain ⟨i0, hi0, hz0, hz1, hz2⟩ := info_parts Tryz.info8
  have hbw : B ≤ w.heap.size := Nat.le_trans h.low (Nat.le_of_lt h.has.lt)
  clear h C
  generalize hw : wrongOf l = er at C'
  clear hw
  generalize textB l = xs at C' htl
  have fin : Hid (∀ w1 w2 bad', Only (fun _ => False) w w1 → ROutAt w2 B g v bs bad' → Only (Foot g v) w1 w2 → ∀ w3 v', w3.ownsRow B 5 1 v' (bs ++ xs).length (b8s (bs ++ xs)) → w2.grownBy w3 v.ownBlock → (v'.ownBlock = v.ownBlock ∨ v'.ownBlock = some w2.heap.size) → (w3.cell? ⟨g, 0, none⟩ = some v ∧ w3.frozen? ⟨g, 0, none⟩ = false) ∧ ROutStep w B g v (bs ++ xs) bad' (.returned (.tuple #[])) (w3.setCell ⟨g, 0, none⟩ v')) := by
    intro w1 w2 bad' k1 o2 k2 w3 v' a b c
    obtain ⟨m3, r3⟩ := rout_grown o2 (Only.refl _ w2) a b c
    exact ⟨⟨by have := m3.cell 0; simpa using this, m3.frozen 0⟩, r3.after ((k1.mono (fun _ _ h => h.elim)).trans k2 (fun _ _ h => h))⟩
  go_enter Tryz.func47, Tryz.ntmps47
  go_wp2_with fail
  refine C'.out.mono ?_
  rintro e w1 ⟨u, rfl, ow, b1⟩
  have k1 := Below.onlyNew b1
  have o1 := HO.out.only k1 (fun _ _ h => h)
  have x1 := owns_SlIs ow
  have hs1 := b1.size
  obtain ⟨A2, c2, hu, _⟩ := owns_slice ow
  have hc0 : w1.cell? ⟨g, 0, none⟩ = some v := by have := o1.has.cell 0; simpa using this
  have hc1 : w1.cell? ⟨g, 1, none⟩ = some (.int .i64 bad) := by have := o1.has.cell 1; simpa using this
  obtain ⟨A, c, hve, _⟩ := owns_slice o1.own
  by_cases h0 : er = 0
  · subst h0
    have hn : nextBad bad 0 = bad := by unfold nextBad; split <;> simp_all
    have HN := Lib.hid hn
    have F := Lib.hid (fin.out w1 w1 bad k1 o1 (Only.refl _ _))
    have O1 := Lib.hid o1.own
    have X1 := Lib.hid x1
    clear fin C' HO k1 o1 x1 ow b1 hc1 hn
    subst hve hu
    go_wp2_with (at_builtin; go_must (refine wpList_append_bytes _ rfl (.tmp 28) (.tmp 29) 22 rfl B 5 i0 Tryz.underlying22 hi0 hz0 hz1 hz2 _ bs xs rfl O1.out _ _ _ rfl X1.out (by rw [List.length_append]; omega) (by omega) ?_))
    intro v3 w3 a3 g3 e3
    rw [← List.length_append] at a3
    obtain ⟨⟨c3, f3⟩, r3⟩ := F.out w3 v3 a3 g3 e3
    obtain ⟨A3, x3, rfl, _⟩ := owns_slice a3
    have R := Lib.hid r3
    clear a3 g3 e3 r3 F O1 X1 hc0
    go_wp2
    go_end0
    rw [← List.length_append, HN.out]
    exact R.out
  · have hd : (er != 0) = true := by simpa using h0
    by_cases hbd : bad = 0
    · subst hbd
      have hn : nextBad 0 er = er := rfl
      have HN := Lib.hid hn
      have hg1 := o1.has.lt
      have o2 : ROutAt (w1.setCell ⟨g, 1, none⟩ (.int .i64 er)) B g v bs er := by
        have hne : some g ≠ v.ownBlock := owns_ne o1.own o1.has (by decide)
        exact ⟨o1.has.set 1 _, owns_only o1.own ((Only.refl (fun i => i = g) w1).setCell (p := ⟨g, 1, none⟩) (fun _ => rfl) _) (fun i hi h => hne (by rw [← h, hi])), o1.low⟩
      have k2 : Only (Foot g v) w1 (w1.setCell ⟨g, 1, none⟩ (.int .i64 er)) := (Only.refl _ w1).setCell (p := ⟨g, 1, none⟩) (fun _ => .inl rfl) _
      have hz : (w1.setCell ⟨g, 1, none⟩ (.int .i64 er)).heap.size = w1.heap.size := by simp [World.setCell]
      have F := Lib.hid (fin.out w1 _ er k1 o2 k2)
      rw [hz] at F
      have hf1 := o1.has.frozen 1
      have hc0' : (w1.setCell ⟨g, 1, none⟩ (.int .i64 er)).cell? ⟨g, 0, none⟩ = some v := by have := o2.has.cell 0; simpa using this
      have O2 := Lib.hid o2.own
      have X2 := Lib.hid (x1.keep (k2.keeps (Nat.le_refl _) (fun i hi _ h => by have := hft i h; omega)))
      have hs2 := k2.size
      clear fin C' HO k1 o1 x1 ow b1 o2 k2 hn hc0 hz
      subst hve hu
      go_wp2_with (at_builtin; go_must (refine wpList_append_bytes _ rfl (.tmp 28) (.tmp 29) 22 rfl B 5 i0 Tryz.underlying22 hi0 hz0 hz1 hz2 _ bs xs rfl O2.out _ _ _ rfl X2.out (by rw [List.length_append]; omega) (by omega) ?_))
      intro v3 w3 a3 g3 e3
      rw [← List.length_append] at a3
      obtain ⟨⟨c3, f3⟩, r3⟩ := F.out w3 v3 a3 g3 e3
      obtain ⟨A3, x3, rfl, _⟩ := owns_slice a3
      have R := Lib.hid r3
      clear a3 g3 e3 r3 F O2 X2 hc0' hf1
      go_wp2
      go_end0
      rw [← List.length_append, HN.out]
      exact R.out
    · have hn : nextBad bad er = bad := if_neg hbd
      have HN := Lib.hid hn
      have hd2 : (bad == 0) = false := by simpa using hbd
      have F := Lib.hid (fin.out w1 w1 bad k1 o1 (Only.refl _ _))
      have O1 := Lib.hid o1.own
      have X1 := Lib.hid x1
      clear fin C' HO k1 o1 x1 ow b1 hn
      subst hve hu
      go_wp2_with (at_builtin; go_must (refine wpList_append_bytes _ rfl (.tmp 28) (.tmp 29) 22 rfl B 5 i0 Tryz.underlying22 hi0 hz0 hz1 hz2 _ bs xs rfl O1.out _ _ _ rfl X1.out (by rw [List.length_append]; omega) (by omega) ?_))
      intro v3 w3 a3 g3 e3
      rw [← List.length_append] at a3
      obtain ⟨⟨c3, f3⟩, r3⟩ := F.out w3 v3 a3 g3 e3
      obtain ⟨A3, x3, rfl, _⟩ := owns_slice a3
      have R := Lib.hid r3
      clear a3 g3 e3 r3 F O1 X1 hc0 hc1
      go_wp2
      go_end0
      rw [← List.length_append, HN.out]
      exact R.out

set_option maxHeartbeats 2000000 in
theorem rqid_any (B g : Nat) (v : Value) (bs : List UInt8) (bad : Int) (q : Q3) (w : World) (h : ROutAt w B g v bs bad) (hq : q.Ok) (hl : bs.length ≤ 1000000) :
    Calls Tryz.prog 48 #[.pointer (some ⟨g, 0, none⟩), q.val] w (ROutStep w B g v (bs ++ qidB q) bad) := by
  obtain ⟨i0, hi0, hz0, hz1, hz2⟩ := info_parts Tryz.info8
  obtain ⟨W, hW⟩ : ∃ W, W = w.alloc (.cells #[.int .u8 (q.t : Int), .int .u32 (q.v : Int), .int .u64 (q.p : Int)] 39) := ⟨_, rfl⟩
  have k0 : Only (fun _ => False) w W := by rw [hW]; exact (Only.refl _ w).alloc _
  have n0 : Has W w.heap.size 39 #[.int .u8 (q.t : Int), .int .u32 (q.v : Int), .int .u64 (q.p : Int)] := by rw [hW]; exact Has.new _ _ _
  have o0 := h.only k0 (fun _ _ h => h)
  have hc : W.cell? ⟨g, 0, none⟩ = some v := by have := o0.has.cell 0; simpa using this
  have q0 : W.cell? ⟨w.heap.size, 0, none⟩ = some (.int .u8 (q.t : Int)) := n0.cell 0
  have q1 : W.cell? ⟨w.heap.size, 1, none⟩ = some (.int .u32 (q.v : Int)) := n0.cell 1
  have q2 : W.cell? ⟨w.heap.size, 2, none⟩ = some (.int .u64 (q.p : Int)) := n0.cell 2
  have hb : B ≤ W.heap.size := Nat.le_trans o0.low (Nat.le_of_lt o0.has.lt)
  have C := refqid_any q W.drew hq
  unfold Q3.val at C ⊢
  have C' := Lib.hid C
  have hpl : (qidB q).length ≤ 13 := Nat.le_of_eq (qidB_length q)
  have HS : Hid (∀ w2, Below W.drew.heap.size W.drew w2 → w2.ownsRow B 5 1 v bs.length (b8s bs) ∧ w2.cell? ⟨g, 0, none⟩ = some v ∧ B ≤ w2.heap.size) := by
    intro w2 k
    have k' : Only (fun _ => False) W w2 := (Only.refl (fun _ => False) W).drew.trans (Below.onlyNew k) (fun _ _ h => h)
    exact ⟨owns_only o0.own k' (fun _ _ h => h), (k'.cell (p := ⟨g, 0, none⟩) o0.has.lt (fun h => h)).trans hc, by have := k'.size; omega⟩
  have HG := Lib.hid (fun (w2 w3 : World) (v' : Value) (k : Below W.drew.heap.size W.drew w2) a b c => rout_grown (w1 := w2) (w2 := w3) (v' := v') (bs' := bs ++ qidB q) o0 ((Only.refl (fun _ => False) W).drew.trans (Below.onlyNew k) (fun _ _ h => h)) a b c)
  obtain ⟨A, c, rfl, _⟩ := owns_slice h.own
  have K0 : Hid (Only (Foot g (.slice A bs.length c)) w W) := k0.mono (fun _ _ h => h.elim)
  generalize qidB q = xs at C' hpl HG
  rw [hW] at hc q0 q1 q2
  have HW := Lib.hid hW.symm
  clear h k0 n0 o0 C hW
  go_enter Tryz.func48, Tryz.ntmps48
  go_wp2_with fail
  rw [HW.out] at hc q0 q1 q2 ⊢
  clear HW
  go_region_law (first
    | (refine step_append_bytes _ (by rfl) _ _ _ (by rfl) B 5 i0 Tryz.underlying22 hi0 hz0 hz1 hz2 _ bs xs (by rfl) O2.out _ _ _ (by rfl) X2.out (by rw [List.length_append]; omega) hb2 ?_; intro v3 w3 a3 g3 e3; obtain ⟨m3, r3⟩ := HG.out w2 w3 v3 K2.out a3 g3 e3; have hc3 : w3.cell? ⟨g, 0, none⟩ = _ := m3.cell 0; have hf3 := m3.frozen 0; obtain ⟨A3, x3, rfl, _⟩ := owns_slice a3; have R := Lib.hid r3; clear a3 g3 e3 m3 r3)
    | (go_simp; go_at_call 74; refine C'.out.mono ?_; rintro e w2 ⟨u, rfl, ow, k2⟩; obtain ⟨o2, cL2, hb2⟩ := HS.out _ k2; have O2 := Lib.hid o2; have X2 := Lib.hid (owns_SlIs ow); have K2 := Lib.hid k2; obtain ⟨A2, c2, rfl, _⟩ := owns_slice ow; clear o2 k2 ow))
  all_goals
    go_wp2
    go_end0
    rw [← List.length_append]
    exact R.out.after K0.out
end Go.Proofs.YtepiifbleoimkaaGreatDoor
