/-
  Package msg: the taking of lists.
-/
import Derived.Test.YtepiifbleoimkaaDoorMsgG
namespace Go.Proofs.YtepiifbleoimkaaDoor
open Go.RowKit
set_option maxRecDepth 100000

def preM {α : Type} (L : List α) (r : Option (List α × List UInt8)) : Option (List α × List UInt8) := r.map fun y => (L ++ y.1, y.2)
theorem preM_nil {α : Type} (r : Option (List α × List UInt8)) : preM [] r = r := by cases r <;> rfl
theorem tkMany_step {α : Type} {one : List UInt8 → Option (α × List UInt8)} {bs r : List UInt8} {x : α} {L : List α} {k : Nat} (h : one bs = some (x, r)) : preM L (tkMany one (k + 1) bs) = preM (L ++ [x]) (tkMany one k r) := by
  rw [tkMany, h, Option.bind_some]
  cases tkMany one k r <;> simp [preM]
theorem tkMany_stop {α : Type} {one : List UInt8 → Option (α × List UInt8)} {bs : List UInt8} {L : List α} {k : Nat} (h : one bs = none) : preM L (tkMany one (k + 1) bs) = none := by
  rw [tkMany, h]
  rfl
def strsV (L : List (List UInt8)) : List Value := L.map fun l => Value.string (strOf l)
def qidV (q : Q3) : List Value := [.int .u8 (q.t : Int), .int .u32 (q.v : Int), .int .u64 (q.p : Int)]
def qidsV (Q : List Q3) : List Value := Q.flatMap qidV
theorem strsV_length (L : List (List UInt8)) : (strsV L).length = L.length := by simp [strsV]
theorem qidsV_length (L : List Q3) : (qidsV L).length = 3 * L.length := by
  induction L with
  | nil => rfl
  | cons q L ih =>
    have e : qidsV (q :: L) = qidV q ++ qidsV L := by simp [qidsV]
    rw [e, List.length_append, ih, List.length_cons]
    simp [qidV]
    omega
theorem qidsV_get (L : List Q3) (i j : Nat) (hi : i < L.length) (hj : j < 3) : (qidsV L)[i * 3 + j]? = (qidV L[i])[j]? := by
  induction L generalizing i with
  | nil => simp at hi
  | cons q L ih =>
    have e : qidsV (q :: L) = qidV q ++ qidsV L := by simp [qidsV]
    have hl : (qidV q).length = 3 := rfl
    rw [e]
    cases i with
    | zero =>
      rw [List.getElem?_append_left (by omega)]
      simp
    | succ i =>
      rw [List.getElem?_append_right (by omega), hl, show (i + 1) * 3 + j - 3 = i * 3 + j from by omega, ih i (by simpa using hi)]
      simp
theorem owns_strs {w : World} {B : Nat} {v : Value} {L : List (List UInt8)} (h : w.ownsRow B 9 1 v L.length (strsV L)) : StrsAt w B w.heap.size v L := by
  rcases id h.2 with ⟨rfl, h0⟩ | ⟨g, cap, cur, rfl, _, _, h1, h2, _⟩
  · exact ⟨none, 0, by rw [h0], by omega, by simp [maxLen], fun hn => by omega⟩
  · refine ⟨_, cap, rfl, h1, h2, fun hn => ?_⟩
    obtain ⟨g', cap', hv, hb, hlt⟩ := h.form (by omega)
    injection hv with hA
    injection hA with hA
    injection hA with hA
    subst hA
    refine ⟨⟨g, 0, none⟩, rfl, hb, hlt, fun j hj => h.cells (g := g) rfl j _ ?_⟩
    simp [strsV, hj]
theorem owns_qids {w : World} {B : Nat} {v : Value} {t : TypeId} {L : List Q3} (h : w.ownsRow B t 3 v L.length (qidsV L)) : QdsAt w B w.heap.size v L := by
  rcases id h.2 with ⟨rfl, h0⟩ | ⟨g, cap, cur, rfl, _, _, h1, h2, _⟩
  · exact ⟨none, 0, by rw [h0], by omega, by simp [maxLen], fun hn => by omega⟩
  · refine ⟨_, cap, rfl, h1, h2, fun hn => ?_⟩
    obtain ⟨g', cap', hv, hb, hlt⟩ := h.form (by omega)
    injection hv with hA
    injection hA with hA
    injection hA with hA
    subst hA
    have hc := h.cells (g := g) rfl
    have e : ∀ k, (⟨g, 0, none⟩ : Addr).add k = ⟨g, k, none⟩ := fun k => by unfold Addr.add; split <;> simp_all
    refine ⟨⟨g, 0, none⟩, rfl, hb, hlt, fun j hj => ?_⟩
    have a0 := hc (j * 3 + 0) _ (by rw [qidsV_get L j 0 hj (by omega)]; rfl)
    have a1 := hc (j * 3 + 1) _ (by rw [qidsV_get L j 1 hj (by omega)]; rfl)
    have a2 := hc (j * 3 + 2) _ (by rw [qidsV_get L j 2 hj (by omega)]; rfl)
    rw [e] at a0 a1 a2
    rw [e]
    exact ⟨a0, a1, a2⟩
theorem Tryd.infoString : (Tryd.prog.info? 9).map (fun i => (i.zero, i.size, i.bytes)) = some (some (.string ⟨#[]⟩), 1, 16) := by kernel_rfl
theorem Tryd.infoQid : (Tryd.prog.info? 28).map (fun i => (i.zero, i.size, i.bytes)) = some (some Q3.zero.val, 3, 16) := by kernel_rfl
theorem Tryd.enterTakeText5 : ∀ args w, (callFunc 70 args).run Tryd.prog w = .ok (.enter 70 args) w := enters_of Tryd.func70 (by kernel_rfl) rfl
theorem Tryd.enterTakeQid : ∀ args w, (callFunc 72 args).run Tryd.prog w = .ok (.enter 72 args) w := enters_of Tryd.func72 (by kernel_rfl) rfl

/-- At the loop's head: j texts are taken. -/
structure LInv (w : World) (lo g : Nat) (r0 : Option (List (List UInt8) × List UInt8)) (n m e1 : Int) (L : List (List UInt8)) (rest : List UInt8) (v : Value) (wr : World) : Prop where
  inn : InAt wr lo g rest e1
  own : wr.ownsRow w.heap.size 9 1 v L.length (strsV L)
  low : Only (fun i => i = g) w wr
  all : r0 = preM L (tkMany (fun b => textSt b 0) (n - L.length).toNat rest)
  few : (rest.length : Int) ≤ m
theorem LInv.step {w wr w2 w3 : World} {lo g : Nat} {r0 : Option (List (List UInt8) × List UInt8)} {n m : Int} {L : List (List UInt8)} {rest r2 t : List UInt8} {v v' : Value} (I : LInv w lo g r0 n m 0 L rest v wr) (hg : lo ≤ g ∧ g < w.heap.size) (hn : (L.length : Int) < n)
    (ht : textSt rest 0 = some (t, r2)) (i2 : InAt w2 lo g r2 0) (k2 : Only (fun i => i = g) wr w2)
    (hown : w3.ownsRow w.heap.size 9 1 v' (L.length + 1) (strsV L ++ [.string (strOf t)])) (hgr : (w2.alloc (.cells #[.string (strOf t)] 9)).grownBy w3 v.ownBlock) :
    LInv w lo g r0 n m 0 (L ++ [t]) r2 v' w3 := by
  have hs := I.low.size
  have hs2 := k2.size
  have hnb : ∀ i, v.ownBlock = some i → w.heap.size ≤ i := fun i hi => (I.own.lt i hi).1
  have k3 : Only (fun i => some i = v.ownBlock) w2 w3 := ((Only.refl (fun i => some i = v.ownBlock) w2).alloc _).trans (Only.of_grown hgr) (fun _ _ h => h)
  refine ⟨i2.only k3 (fun i _ hi h => by have := hnb i h.symm; omega), by simpa [strsV] using hown, (I.low.trans k2 (fun _ _ h => h)).trans k3 (fun i hi h => by have := hnb i h.symm; omega), ?_, ?_⟩
  · rw [I.all, show (n - (L.length : Int)).toNat = (n - ((L ++ [t]).length : Int)).toNat + 1 from by rw [List.length_append, List.length_singleton]; omega]
    exact tkMany_step ht
  · have := textSt_len ht
    have := I.few
    omega

set_option maxHeartbeats 2000000 in
theorem tklists_any (lo g : Nat) (bs : List UInt8) (er : Int) (w : World) (hI : InAt w lo g bs er) (hT : Tabs w) (hg : 1 < g ∧ 2 < g) (hb : bs.length ≤ 100000) :
    Calls Tryd.prog 71 #[.pointer (some ⟨g, 0, none⟩), .func (.func 70) #[] #[]] w (TkStep w lo g .texts bs er) := by
  have C := Lib.hid (take_any lo g 2 bs er w hI)
  have hlt := takeSt_lt 2 bs er
  have hln := takeSt_len 2 bs er
  have hz := @tkN_of 2 bs er
  have hz2 := @takeSt_bad1 2 bs er
  have hno := @tkN_none 2 bs
  have hE : tkE .texts bs er = if er = 0 then ((tkN 2 bs).bind fun n => if 16 < n.1 then none else (tkMany (fun b => textSt b 0) n.1 n.2).map fun x => (.texts x.1, x.2)) else none := rfl
  have h00 : er = 0 → takeSt ((2 : Nat) : Int) bs 0 = takeSt ((2 : Nat) : Int) bs er := fun h => by rw [h]
  obtain ⟨s, hs⟩ : ∃ s, s = takeSt 2 bs er := ⟨_, rfl⟩
  rw [show takeSt ((2 : Nat) : Int) bs er = s from hs.symm] at hlt hz h00
  rw [← hs] at C hz2 hln
  obtain ⟨n, r, e1⟩ := s
  simp only at C hlt hz hz2 hln
  have hgl := hI.lt
  have HT := Lib.hid (fun w' (k : Only (fun i => i = g) w w') => hT.only k (by omega) (by omega))
  clear hs hI hT
  by_cases hbig : 16 < n
  · have hd : decide ((n : Int) ≤ 16) = false := decide_eq_false (by omega)
    have h1 : e1 = 0 := Decidable.byContradiction fun hn => by have := hz2 hn; omega
    have hN : Hid (tkE .texts bs er = none) := by
      obtain ⟨a, b⟩ := hz h1
      refine Lib.hid ?_
      rw [hE, if_pos a, b]
      simp [hbig]
    clear hE h00 hz hz2 hno hbig
    go_enter Tryd.func71, Tryd.ntmps71
    go_wp2_with fail
    refine C.out.mono ?_
    rintro e w1 ⟨rfl, i1, k1⟩
    have R : Hid (TkStep w lo g .texts bs er (.panicked [{ v := .iface 36 (.int .i64 2), recovered := false }]) w1) := .inl ⟨rfl, k1, hN.out⟩
    clear C i1 k1 hN
    go_wp2_with fail
    refine (must_no 2 w1).mono ?_
    rintro e w' ⟨rfl, rfl⟩
    go_wp2
    exact ⟨rfl, R.out⟩
  · have hd : decide ((n : Int) ≤ 16) = true := decide_eq_true (by omega)
    have hn16 : n ≤ 16 := by omega
    -- what is told behind the loop, and where it stops
    have HR : Hid (∀ L rest, tkMany (fun b => textSt b 0) n r = some (L, rest) → e1 = 0 → tkE .texts bs er = some (.texts L, rest)) := by
      intro L rest h h1
      obtain ⟨a, b⟩ := hz h1
      rw [hE, if_pos a, b, Option.bind_some, if_neg hbig]
      simp only
      rw [h]
      rfl
    have HS : Hid (tkMany (fun b => textSt b 0) n r = none → tkE .texts bs er = none) := by
      intro h
      rw [hE]
      split
      · rename_i h0
        by_cases h1 : e1 = 0
        · obtain ⟨a, b⟩ := hz h1
          rw [b, Option.bind_some, if_neg hbig]
          simp only
          rw [h]
          rfl
        · rw [hno (by rw [h00 h0]; exact h1)]
          rfl
      · rfl
    have HX : Hid (e1 ≠ 0 → tkE .texts bs er = none) := by
      intro h1
      rw [hE]
      split
      · rename_i h0
        rw [hno (by rw [h00 h0]; exact h1)]
        rfl
      · rfl
    have HZ2 := Lib.hid hz2
    have eg := Tryd.enterTakeText5
    obtain ⟨i0', hi0, hz0, hz1, hz22⟩ := info_parts Tryd.infoString
    clear hE hz hno h00 hz2
    go_enter Tryd.func71, Tryd.ntmps71
    go_wp2_with fail
    refine C.out.mono ?_
    rintro e w1 ⟨rfl, i1, k1⟩
    have I0 : Hid (LInv w lo g (tkMany (fun b => textSt b 0) n r) n bs.length e1 [] r (.slice none 0 0) w1) := ⟨i1, World.ownsRow_nil _ _ _ _, k1, by rw [preM_nil]; simp, by omega⟩
    clear C i1 k1
    go_wp2_with fail
    refine (must_yes 2 w1).mono ?_
    rintro e w' ⟨rfl, rfl⟩
    go_wp2_with fail
    go_loopw [6, 13] (fun u i wr => ∃ L rest, L.length ≤ n ∧ i = .int .u64 (L.length : Nat) ∧ Hid (LInv w lo g (tkMany (fun b => textSt b 0) n r) n bs.length e1 L rest u wr)) (fun _ i _ => n - (intOf i).toNat)
    case atStart => exact ⟨[], r, Nat.zero_le _, rfl, I0⟩
    case round =>
      obtain ⟨L, rest, hj, rfl, hrel⟩ := hrel
      clear I0
      by_cases hlt' : L.length < n
      · have h1 : e1 = 0 := Decidable.byContradiction fun hn => by have := HZ2.out hn; omega
        subst h1
        have i1 : ((L.length : Nat) : Int) < (n : Int) := by omega
        have hlow := hrel.out.low
        have hfew := hrel.out.few
        have C := Lib.hid (taketext5_any lo g rest 0 wr hrel.out.inn (HT.out _ hlow) (by omega) (by omega) (by omega))
        have hsz := hlow.size
        clear hlow hfew
        go_wp2_with fail
        go_at_fn 70
        refine C.out.mono ?_
        intro e w2 st
        cases hr : textSt rest 0 with
        | none =>
          rw [hr] at st
          obtain ⟨rfl, k2⟩ := st
          have R : Hid (TkStep w lo g .texts bs er (.panicked [{ v := .iface 36 (.int .i64 2), recovered := false }]) w2) := by
            refine .inl ⟨rfl, hrel.out.low.trans k2 (fun _ _ h => h), HS.out ?_⟩
            rw [hrel.out.all, show ((n : Int) - (L.length : Int)).toNat = (n - L.length - 1) + 1 from by omega]
            exact tkMany_stop hr
          clear C k2 hr hrel HR HS HX HT HZ2
          go_wp2
          exact ⟨rfl, R.out⟩
        | some p =>
          obtain ⟨t, r2⟩ := p
          rw [hr] at st
          obtain ⟨rfl, i2, k2⟩ := st
          have hnb : ∀ i, u6.ownBlock = some i → w.heap.size ≤ i := fun i hi => (hrel.out.own.lt i hi).1
          have hs2 := k2.size
          have hown := owns_only (owns_only hrel.out.own k2 (fun i hi h => by have := hnb i hi; omega)) ((Only.refl (fun _ => False) w2).alloc (.cells #[.string (strOf t)] 9)) (fun _ _ h => h)
          have HN := Lib.hid hown
          have HF := Lib.hid (fun (v' : Value) (w3 : World) a b => LInv.step (v' := v') (w3 := w3) hrel.out ⟨hgl.1, hgl.2⟩ (by omega) hr i2 k2 a b)
          clear C k2 hr hrel i2 hown hnb
          go_wp2_with (at_builtin; go_must (refine wpList_append_lies _ rfl (.tmp 15) (.tmp 19) 24 rfl w.heap.size 9 i0' _ 1 16 Tryd.underlying24 hi0 hz0 hz1 hz22 rfl (by omega) _ _ _ rfl HN.out ⟨w2.heap.size, 0, none⟩ 1 1 [.string (strOf t)] rfl rfl (World.news_of_block (cs := #[.string (strOf t)]) (t := 9) (fr := (0, 0)) (heap_alloc_new w2 _)) (by simp [Value.oneCell']) (by omega) (by simp only [maxLen]; omega) (by omega) (by simp; omega) (w2.heap.size + 1) (by simp) ?_))
          intro gg cap w' h1 h2 _ _
          have R := Lib.hid (HF.out _ w' h1 h2)
          clear h1 h2 HF HN
          go_wp2
          go_roundw
          case rel => exact ⟨L ++ [t], r2, by simp; omega, by rw [List.length_append, List.length_singleton]; go_num, R⟩
          case measure => simp [intOf]; omega
      · have hj4 : n = L.length := by omega
        have hinn := hrel.out.inn
        have i1 : ¬ ((L.length : Nat) : Int) < (n : Int) := by omega
        have hall : tkMany (fun b => textSt b 0) n r = some (L, rest) := by
          rw [hrel.out.all, show ((n : Int) - (L.length : Int)).toNat = 0 from by omega]
          simp [preM, tkMany]
        have R : Hid (TkStep w lo g .texts bs er (.returned u6) wr) :=
          .inr ⟨.texts L, u6, rest, e1, rfl, rfl, owns_strs hrel.out.own, hinn, hrel.out.low, by have := hrel.out.few; omega, fun h1 => HR.out L rest hall h1, fun h1 => HX.out h1⟩
        clear hinn hall hrel HR HS HX HT HZ2 hj4
        go_wp2
        go_ret
        exact R.out

theorem qTake_bad {bs : List UInt8} {er : Int} (h : er ≠ 0) : (qTake bs er).2.2 ≠ 0 := by
  unfold qTake
  simp only
  exact takeSt_bad (takeSt_bad (takeSt_bad h))
/-- At the loop's head: j qids are taken. -/
structure QInv (w : World) (lo g : Nat) (r0 : Option (List Q3 × List UInt8)) (n m e1 : Int) (L : List Q3) (rest : List UInt8) (er : Int) (v : Value) (wr : World) : Prop where
  inn : InAt wr lo g rest er
  own : wr.ownsRow w.heap.size 28 3 v L.length (qidsV L)
  low : Only (fun i => i = g) w wr
  yes : er = 0 → r0 = preM L (tkMany tkQ (n - L.length).toNat rest)
  no : er ≠ 0 → e1 ≠ 0 ∨ r0 = none
  stay : e1 ≠ 0 → er ≠ 0
  few : (rest.length : Int) ≤ m
theorem QInv.step {w wr w2 w3 : World} {lo g : Nat} {r0 : Option (List Q3 × List UInt8)} {n m er : Int} {L : List Q3} {rest : List UInt8} {v v' : Value} {t : Q3} {r2 : List UInt8} {e2 : Int} (I : QInv w lo g r0 n m 0 L rest er v wr) (hg : lo ≤ g ∧ g < w.heap.size) (hn : (L.length : Int) < n)
    (ht : qTake rest er = (t, r2, e2)) (i2 : InAt w2 lo g r2 e2) (k2 : Only (fun i => i = g) wr w2)
    (hown : w3.ownsRow w.heap.size 28 3 v' (L.length + 1) (qidsV L ++ qidV t)) (hgr : (w2.alloc (.cells #[.int .u8 (t.t : Int), .int .u32 (t.v : Int), .int .u64 (t.p : Int)] 28)).grownBy w3 v.ownBlock) :
    QInv w lo g r0 n m 0 (L ++ [t]) r2 e2 v' w3 := by
  have hs := I.low.size
  have hs2 := k2.size
  have hnb : ∀ i, v.ownBlock = some i → w.heap.size ≤ i := fun i hi => (I.own.lt i hi).1
  have k3 : Only (fun i => some i = v.ownBlock) w2 w3 := ((Only.refl (fun i => some i = v.ownBlock) w2).alloc _).trans (Only.of_grown hgr) (fun _ _ h => h)
  refine ⟨i2.only k3 (fun i _ hi h => by have := hnb i h.symm; omega), by simpa [qidsV] using hown, (I.low.trans k2 (fun _ _ h => h)).trans k3 (fun i hi h => by have := hnb i h.symm; omega), ?_, ?_, fun h => absurd rfl h, ?_⟩
  · intro h0
    have her : er = 0 := Decidable.byContradiction fun hn => by
      have := qTake_bad (bs := rest) hn
      rw [ht] at this
      exact this h0
    rw [I.yes her, show (n - (L.length : Int)).toNat = (n - ((L ++ [t]).length : Int)).toNat + 1 from by rw [List.length_append, List.length_singleton]; omega]
    refine tkMany_step ?_
    rw [her] at ht
    rw [tkQ, ht]
    simp [h0]
  · intro h0
    right
    by_cases her : er = 0
    · rw [I.yes her, show (n - (L.length : Int)).toNat = (n - (L.length : Int) - 1).toNat + 1 from by omega]
      refine tkMany_stop ?_
      rw [her] at ht
      rw [tkQ, ht]
      simp [h0]
    · rcases I.no her with h | h
      · exact absurd rfl h
      · exact h
  · have := qTake_len rest er
    rw [ht] at this
    have := I.few
    simp only at *
    omega

set_option maxHeartbeats 2000000 in
theorem tklistq_any (lo g : Nat) (bs : List UInt8) (er : Int) (w : World) (hI : InAt w lo g bs er) :
    Calls Tryd.prog 73 #[.pointer (some ⟨g, 0, none⟩), .func (.func 72) #[] #[]] w (TkStep w lo g .qids bs er) := by
  have C := Lib.hid (take_any lo g 2 bs er w hI)
  have hlt := takeSt_lt 2 bs er
  have hln := takeSt_len 2 bs er
  have hz := @tkN_of 2 bs er
  have hz2 := @takeSt_bad1 2 bs er
  have hno := @tkN_none 2 bs
  have hE : tkE .qids bs er = if er = 0 then ((tkN 2 bs).bind fun n => if 16 < n.1 then none else (tkMany tkQ n.1 n.2).map fun x => (.qids x.1, x.2)) else none := rfl
  have h00 : er = 0 → takeSt ((2 : Nat) : Int) bs 0 = takeSt ((2 : Nat) : Int) bs er := fun h => by rw [h]
  obtain ⟨s, hs⟩ : ∃ s, s = takeSt 2 bs er := ⟨_, rfl⟩
  rw [show takeSt ((2 : Nat) : Int) bs er = s from hs.symm] at hlt hz h00
  rw [← hs] at C hz2 hln
  obtain ⟨n, r, e1⟩ := s
  simp only at C hlt hz hz2 hln
  have hgl := hI.lt
  clear hs hI
  by_cases hbig : 16 < n
  · have hd : decide ((n : Int) ≤ 16) = false := decide_eq_false (by omega)
    have h1 : e1 = 0 := Decidable.byContradiction fun hn => by have := hz2 hn; omega
    have hN : Hid (tkE .qids bs er = none) := by
      obtain ⟨a, b⟩ := hz h1
      refine Lib.hid ?_
      rw [hE, if_pos a, b]
      simp [hbig]
    clear hE h00 hz hz2 hno hbig
    go_enter Tryd.func73, Tryd.ntmps73
    go_wp2_with fail
    refine C.out.mono ?_
    rintro e w1 ⟨rfl, i1, k1⟩
    have R : Hid (TkStep w lo g .qids bs er (.panicked [{ v := .iface 36 (.int .i64 2), recovered := false }]) w1) := .inl ⟨rfl, k1, hN.out⟩
    clear C i1 k1 hN
    go_wp2_with fail
    refine (must_no 2 w1).mono ?_
    rintro e w' ⟨rfl, rfl⟩
    go_wp2
    exact ⟨rfl, R.out⟩
  · have hd : decide ((n : Int) ≤ 16) = true := decide_eq_true (by omega)
    have hn16 : n ≤ 16 := by omega
    have HR : Hid (∀ L rest, tkMany tkQ n r = some (L, rest) → e1 = 0 → tkE .qids bs er = some (.qids L, rest)) := by
      intro L rest h h1
      obtain ⟨a, b⟩ := hz h1
      rw [hE, if_pos a, b, Option.bind_some, if_neg hbig]
      simp only
      rw [h]
      rfl
    have HS : Hid (tkMany tkQ n r = none → tkE .qids bs er = none) := by
      intro h
      rw [hE]
      split
      · rename_i h0
        by_cases h1 : e1 = 0
        · obtain ⟨a, b⟩ := hz h1
          rw [b, Option.bind_some, if_neg hbig]
          simp only
          rw [h]
          rfl
        · rw [hno (by rw [h00 h0]; exact h1)]
          rfl
      · rfl
    have HX : Hid (e1 ≠ 0 → tkE .qids bs er = none) := by
      intro h1
      rw [hE]
      split
      · rename_i h0
        rw [hno (by rw [h00 h0]; exact h1)]
        rfl
      · rfl
    have HZ2 := Lib.hid hz2
    have eg := Tryd.enterTakeQid
    obtain ⟨i0', hi0, hz0, hz1, hz22⟩ := info_parts Tryd.infoQid
    clear hE hz hno h00 hz2
    go_enter Tryd.func73, Tryd.ntmps73
    go_wp2_with fail
    refine C.out.mono ?_
    rintro e w1 ⟨rfl, i1, k1⟩
    have I0 : Hid (QInv w lo g (tkMany tkQ n r) n bs.length e1 [] r e1 (.slice none 0 0) w1) := ⟨i1, World.ownsRow_nil _ _ _ _, k1, fun _ => by rw [preM_nil]; simp, fun h => .inl h, fun h => h, by omega⟩
    clear C i1 k1
    go_wp2_with fail
    refine (must_yes 2 w1).mono ?_
    rintro e w' ⟨rfl, rfl⟩
    go_wp2_with fail
    go_loopw [6, 13] (fun u i wr => ∃ L rest er', L.length ≤ n ∧ i = .int .u64 (L.length : Nat) ∧ Hid (QInv w lo g (tkMany tkQ n r) n bs.length e1 L rest er' u wr)) (fun _ i _ => n - (intOf i).toNat)
    case atStart => exact ⟨[], r, e1, Nat.zero_le _, rfl, I0⟩
    case round =>
      obtain ⟨L, rest, er', hj, rfl, hrel⟩ := hrel
      clear I0
      by_cases hlt' : L.length < n
      · have h1 : e1 = 0 := Decidable.byContradiction fun hn => by have := HZ2.out hn; omega
        subst h1
        have i1 : ((L.length : Nat) : Int) < (n : Int) := by omega
        have C := qidtake_any lo g rest er' wr hrel.out.inn
        unfold QTakeStep at C
        have hsz := hrel.out.low.size
        have HF0 := Lib.hid (fun (w2 : World) (v' : Value) (w3 : World) (t : Q3) (r2 : List UInt8) (e2 : Int) ht i2 k2 a b => QInv.step (w2 := w2) (v' := v') (w3 := w3) (t := t) (r2 := r2) (e2 := e2) hrel.out ⟨hgl.1, hgl.2⟩ (by omega) ht i2 k2 a b)
        obtain ⟨st, hst⟩ : ∃ st, st = qTake rest er' := ⟨_, rfl⟩
        rw [← hst] at C HF0
        obtain ⟨t, r2, e2⟩ := st
        simp only at C
        unfold Q3.val at C
        have C := Lib.hid C
        clear hst
        go_wp2_with fail
        go_at_fn 72
        refine C.out.mono ?_
        rintro e w2 ⟨rfl, i2, k2⟩
        have hnb : ∀ i, u6.ownBlock = some i → w.heap.size ≤ i := fun i hi => (hrel.out.own.lt i hi).1
        have hs2 := k2.size
        have hown := owns_only (owns_only hrel.out.own k2 (fun i hi h => by have := hnb i hi; omega)) ((Only.refl (fun _ => False) w2).alloc (.cells #[.int .u8 (t.t : Int), .int .u32 (t.v : Int), .int .u64 (t.p : Int)] 28)) (fun _ _ h => h)
        have HN := Lib.hid hown
        have HF := Lib.hid (fun (v' : Value) (w3 : World) a b => HF0.out w2 v' w3 t r2 e2 rfl i2 k2 a b)
        clear C k2 hrel i2 hown hnb HF0
        go_wp2_with (at_builtin; go_must (refine wpList_append_lies _ rfl (.tmp 15) (.tmp 19) 25 rfl w.heap.size 28 i0' _ 3 16 Tryd.underlying25 hi0 hz0 hz1 hz22 rfl (by omega) _ _ _ rfl HN.out ⟨w2.heap.size, 0, none⟩ 1 1 (qidV t) rfl rfl (World.news_of_block (cs := #[.int .u8 (t.t : Int), .int .u32 (t.v : Int), .int .u64 (t.p : Int)]) (t := 28) (fr := (0, 0)) (heap_alloc_new w2 _)) (by simp [qidV, Value.oneCell']) (by omega) (by simp only [maxLen]; omega) (by omega) (by simp; omega) (w2.heap.size + 1) (by simp) ?_))
        intro gg cap w' h1 h2 _ _
        have R := Lib.hid (HF.out _ w' h1 h2)
        clear h1 h2 HF HN
        go_wp2
        go_roundw
        case rel => exact ⟨L ++ [t], r2, e2, by simp; omega, by rw [List.length_append, List.length_singleton]; go_num, R⟩
        case measure => simp [intOf]; omega
      · have hj4 : n = L.length := by omega
        have hinn := hrel.out.inn
        have i1 : ¬ ((L.length : Nat) : Int) < (n : Int) := by omega
        have hall : er' = 0 → tkMany tkQ n r = some (L, rest) := by
          intro h0
          rw [hrel.out.yes h0, show ((n : Int) - (L.length : Int)).toNat = 0 from by omega]
          simp [preM, tkMany]
        have R : Hid (TkStep w lo g .qids bs er (.returned u6) wr) := by
          refine .inr ⟨.qids L, u6, rest, er', rfl, rfl, owns_qids hrel.out.own, hinn, hrel.out.low, by have := hrel.out.few; omega, fun h1 => ?_, fun h1 => ?_⟩
          · exact HR.out L rest (hall h1) (Decidable.byContradiction fun hn => hrel.out.stay hn h1)
          · rcases hrel.out.no h1 with h | h
            · exact HX.out h
            · exact HS.out h
        clear hinn hall hrel HR HS HX HZ2 hj4
        go_wp2
        go_ret
        exact R.out
end Go.Proofs.YtepiifbleoimkaaDoor
