/-
  Package msg: Same; Known, Ask, Error.
-/
import Derived.Test.YtepiifbleoimkaaDoorMsgP
namespace Go.Proofs.YtepiifbleoimkaaDoor
open Go.RowKit
set_option maxRecDepth 100000

/-- Two messages say the same. -/
def sameM (t tag t' tag' : Nat) (m m' : Nat → F) : Prop := t = t' ∧ tag = tag' ∧ ∀ l, namedOf t = some l → fieldsOf m l = fieldsOf m' l
theorem fieldsOf_next {m m' : Nat → F} {l : List (K × Nat)} {j : Nat} (h : fieldsOf m (l.take j) = fieldsOf m' (l.take j)) (hj : j < l.length) (he : m l[j].2 = m' l[j].2) : fieldsOf m (l.take (j + 1)) = fieldsOf m' (l.take (j + 1)) := by
  unfold fieldsOf at h ⊢
  rw [List.take_succ_eq_append_getElem hj, List.map_append, List.map_append, h]
  simp [he]
theorem fieldsOf_get {m m' : Nat → F} {l : List (K × Nat)} {j : Nat} (h : fieldsOf m l = fieldsOf m' l) (hj : j < l.length) : m l[j].2 = m' l[j].2 := by
  have := congrArg (fun x => x[j]?) h
  simpa [fieldsOf, hj] using this

set_option maxHeartbeats 2000000 in
theorem same5_any (lo hi lo' hi' t tag t' tag' : Nat) (cs cs' : Array Value) (m m' : Nat → F) (w : World) (h1 : MgAt w lo hi cs m) (h2 : MgAt w lo' hi' cs' m') (hh : hi ≤ w.heap.size) (hh' : hi' ≤ w.heap.size)
    (ht : m 0 = .num 1 t) (htag : m 1 = .num 2 tag) (ht' : m' 0 = .num 1 t') (htag' : m' 1 = .num 2 tag') (hfew : ∀ p ∈ places, (m p.2).Few) :
    Calls Tryd.prog 14 #[.agg cs, .agg cs'] w (Tells w (sameM t tag t' tag' m m')) := by
  obtain ⟨W, hW⟩ : ∃ W, W = (w.alloc (.cells cs 33)).alloc (.cells cs' 33) := ⟨_, rfl⟩
  have k0 : Only (fun _ => False) w W := by rw [hW]; exact ((Only.refl _ w).alloc _).alloc _
  have hA : Has W w.heap.size 33 cs := by rw [hW]; exact (Has.new w _ _).alloc _
  have hB : Has W (w.heap.size + 1) 33 cs' := by
    rw [hW]
    have := Has.new (w.alloc (.cells cs 33)) 33 cs'
    simpa using this
  have e0 : cs[0]? = some (.int .u8 (t : Int)) := by have := h1.lies (.num 1, 0) (by decide); rw [ht] at this; exact this
  have e1 : cs[1]? = some (.int .u16 (tag : Int)) := by have := h1.lies (.num 2, 1) (by decide); rw [htag] at this; exact this
  have f0 : cs'[0]? = some (.int .u8 (t' : Int)) := by have := h2.lies (.num 1, 0) (by decide); rw [ht'] at this; exact this
  have f1 : cs'[1]? = some (.int .u16 (tag' : Int)) := by have := h2.lies (.num 2, 1) (by decide); rw [htag'] at this; exact this
  have c0 := (hA.cell 0).trans e0
  have c1 := (hA.cell 1).trans e1
  have d0 := (hB.cell 0).trans f0
  have d1 := (hB.cell 1).trans f1
  have KW := Lib.hid k0
  have g1 := h1.keep (k0.keeps hh (fun _ _ _ h => h))
  have g2 := h2.keep (k0.keeps hh' (fun _ _ _ h => h))
  have hsW := k0.size
  by_cases htt : t = t'
  · by_cases hgg : tag = tag'
    · subst htt hgg
      have dt : ((t : Int) != (t : Int)) = false := by simp
      have dg : ((tag : Int) != (tag : Int)) = false := by simp
      have C := Lib.hid (named_any w.heap.size t cs W hA e0)
      have HA := Lib.hid hA
      have HB := Lib.hid hB
      have HG1 := Lib.hid g1
      have HG2 := Lib.hid g2
      have HF := Lib.hid hfew
      have HF0 := Lib.hid f0
      rw [hW] at c0 c1 d0 d1
      have HW := Lib.hid hW.symm
      clear h1 h2 ht htag ht' htag' hfew k0 hA hB e0 e1 f0 f1 g1 g2 hW
      go_enter Tryd.func14, Tryd.ntmps14
      go_wp2_with fail
      rw [HW.out]
      refine C.out.mono ?_
      rintro e w1 ⟨x, rfl, hx, b1⟩
      clear c0 c1 d0 d1 C HW
      have k1 := Below.onlyNew b1
      have hs1 := b1.size
      have C2 := Lib.hid (named_any (w.heap.size + 1) t cs' w1 (HB.out.only k1 (fun h => h)) HF0.out)
      have K1 := Lib.hid k1
      have HX := Lib.hid hx
      clear hx k1 b1 HF0
      go_wp2_with fail
      refine C2.out.mono ?_
      rintro e w2 ⟨y, rfl, hy, b2⟩
      have k2 := Below.onlyNew b2
      have kk : Only (fun _ => False) W w2 := K1.out.trans k2 (fun _ _ h => h)
      have hs2 := b2.size
      obtain ⟨A, c, rfl, hx⟩ := HX.out
      obtain ⟨A', c', rfl, hy⟩ := hy
      simp only [List.length_map] at hx hy
      obtain ⟨l, hl⟩ : ∃ l, l = (namedOf t).getD [] := ⟨_, rfl⟩
      rw [← hl] at hx hy
      have HLX := Lib.hid (fun (hn : 0 < l.length) => (show ∃ gg, A = some ⟨gg, 0, none⟩ ∧ ∀ w3, Only (fun _ => False) w2 w3 → ∀ j (h : j < l.length), w3.cell? ⟨gg, j, none⟩ = some (fieldV w.heap.size l[j]) from by
        obtain ⟨gg, e, a1, a2, a3⟩ := hx hn
        refine ⟨gg, e, fun w3 k3 j hj => ?_⟩
        rw [k3.cell (p := ⟨gg, j, none⟩) (by simp only; omega) (fun h => h), k2.cell (p := ⟨gg, j, none⟩) a2 (fun h => h), a3 j (by simpa using hj)]
        simp))
      have HLY := Lib.hid (fun (hn : 0 < l.length) => (show ∃ gg, A' = some ⟨gg, 0, none⟩ ∧ ∀ w3, Only (fun _ => False) w2 w3 → ∀ j (h : j < l.length), w3.cell? ⟨gg, j, none⟩ = some (fieldV (w.heap.size + 1) l[j]) from by
        obtain ⟨gg, e, a1, a2, a3⟩ := hy hn
        refine ⟨gg, e, fun w3 k3 j hj => ?_⟩
        rw [k3.cell (p := ⟨gg, j, none⟩) a2 (fun h => h), a3 j (by simpa using hj)]
        simp))
      have hpl : ∀ p ∈ l, p ∈ places ∧ p.1.std := by
        intro p hp
        cases hn : namedOf t with
        | none =>
          rw [hn] at hl
          subst hl
          simp at hp
        | some l' =>
          rw [hn] at hl
          have : l = l' := hl
          subst this
          exact ⟨(named_mem hn).1 p hp, ((named_std hn).1 p hp).1⟩
      have hl4 : l.length ≤ 4 := by
        cases hn : namedOf t with
        | none =>
          rw [hn] at hl
          subst hl
          simp
        | some l' =>
          rw [hn] at hl
          have : l = l' := hl
          subst this
          exact (named_std hn).2
      have hsame : sameM t tag t tag m m' ↔ fieldsOf m l = fieldsOf m' l := by
        unfold sameM
        constructor
        · rintro ⟨_, _, h⟩
          cases hn : namedOf t with
          | none =>
            rw [hn] at hl
            subst hl
            rfl
          | some l' =>
            rw [hn] at hl
            have : l = l' := hl
            subst this
            exact h l hn
        · intro h
          refine ⟨rfl, rfl, fun l' hn => ?_⟩
          rw [hn] at hl
          have : l = l' := hl
          subst this
          exact h
      have HP := Lib.hid hpl
      have HS := Lib.hid hsame
      have KK := Lib.hid kk
      have I0 : Hid (fieldsOf m (l.take 0) = fieldsOf m' (l.take 0) ∧ Only (fun _ => False) w2 w2) := ⟨by simp [fieldsOf], Only.refl _ _⟩
      clear hx hy hpl hsame HX K1 k2 b2 C2 kk
      rw [← hl]
      simp only [List.length_map]
      clear hl
      go_wp2_with fail
      go_loopw [32] (fun i wr => ∃ j : Nat, j ≤ l.length ∧ i = .int .i64 j ∧ Hid (fieldsOf m (l.take j) = fieldsOf m' (l.take j) ∧ Only (fun _ => False) w2 wr)) (fun i _ => l.length - (intOf i).toNat)
      case atStart => exact ⟨0, Nat.zero_le _, rfl, I0⟩
      case round =>
        obtain ⟨j, hj, rfl, hrel⟩ := hrel
        clear I0
        by_cases hlt : j < l.length
        · obtain ⟨ga, rfl, hca⟩ := HLX.out (by omega)
          obtain ⟨gb, rfl, hcb⟩ := HLY.out (by omega)
          have kw := hrel.out.2
          have kd : Only (fun _ => False) wr wr.drew := ⟨rfl, rfl, rfl, Nat.le_refl _, fun _ _ _ => rfl⟩
          have c0 := hca wr kw j hlt
          have c1 := hcb wr kw j hlt
          have i0 : (0 : Int) ≤ (j : Int) := by omega
          have i1 : (j : Int) < (l.length : Int) := by omega
          obtain ⟨hp, hstd⟩ := HP.out l[j] (List.getElem_mem hlt)
          have kall : Only (fun _ => False) W wr.drew := (KK.out.trans kw (fun _ _ h => h)).trans kd (fun _ _ h => h)
          have hsz := kall.size
          have C3 := samef_any w.heap.size l[j].2 (w.heap.size + 1) l[j].2 cs cs' lo hi lo' hi' (m l[j].2) (m' l[j].2) wr.drew (HA.out.only kall (fun h => h)) (HB.out.only kall (fun h => h)) ((HG1.out.lies _ hp).keep (kall.keeps (by omega) (fun _ _ _ h => h))) ((HG2.out.lies _ hp).keep (kall.keeps (by omega) (fun _ _ _ h => h)))
            (by rw [HG1.out.kind _ hp]; exact hstd) (by rw [HG1.out.kind _ hp, HG2.out.kind _ hp]) (by omega) (by omega) (HF.out _ hp)
          rw [HG1.out.kind _ hp] at C3
          have e1 : fieldV w.heap.size l[j] = .iface l[j].1.ptr (.pointer (some ⟨w.heap.size, l[j].2, none⟩)) := rfl
          have e2 : fieldV (w.heap.size + 1) l[j] = .iface l[j].1.ptr (.pointer (some ⟨w.heap.size + 1, l[j].2, none⟩)) := rfl
          rw [e1] at c0
          rw [e2] at c1
          have R1 : Hid (m l[j].2 = m' l[j].2 → ∀ w4, Below wr.drew.heap.size wr.drew w4 → fieldsOf m (l.take (j + 1)) = fieldsOf m' (l.take (j + 1)) ∧ Only (fun _ => False) w2 w4) :=
            fun he w4 b4 => ⟨fieldsOf_next hrel.out.1 hlt he, (kw.trans kd (fun _ _ h => h)).trans (Below.onlyNew b4) (fun _ _ h => h)⟩
          have R2 : Hid (m l[j].2 ≠ m' l[j].2 → ∀ w4, Below wr.drew.heap.size wr.drew w4 → Tells w (sameM t tag t tag m m') (.returned (.bool false)) w4) := by
            intro he w4 b4
            refine ⟨⟨false, rfl, ?_⟩, ((KW.out.trans kall (fun _ _ h => h)).trans (Below.onlyNew b4) (fun _ _ h => h)).below (Nat.le_refl _) (fun _ _ h => h)⟩
            simp only [Bool.false_eq_true, false_iff]
            intro h
            exact he (fieldsOf_get (HS.out.1 h) hlt)
          obtain ⟨ty, hty⟩ : ∃ ty, ty = l[j].1.ptr := ⟨_, rfl⟩
          obtain ⟨off, hoff⟩ : ∃ off, off = l[j].2 := ⟨_, rfl⟩
          rw [← hty] at C3 c0 c1
          rw [← hoff] at C3 c0 c1 R1 R2
          have C4 := Lib.hid C3
          clear C3 hrel hca hcb kw kd hp hstd kall hsz e1 e2 hty hoff
          go_wp2_with fail
          go_still_tail 8, (by kernel_rfl)
          go_wp2_with fail
          refine C4.out.mono ?_
          rintro e w4 ⟨⟨b, rfl, hb⟩, b4⟩
          by_cases he : m off = m' off
          · have hbt : b = true := hb.2 he
            subst hbt
            have R := Lib.hid (R1.out he w4 b4)
            clear C4 R1 R2 hb b4 he c0 c1
            go_wp2
            go_roundw
            case rel => exact ⟨j + 1, by omega, by go_num, R⟩
            case measure => simp [intOf]; omega
          · have hbf : b = false := by
              cases b with
              | true => exact absurd (hb.1 rfl) he
              | false => rfl
            subst hbf
            have R := Lib.hid (R2.out he w4 b4)
            clear C4 R1 R2 hb b4 he c0 c1
            go_wp2
            go_ret
            exact R.out
        · have hj4 : j = l.length := by omega
          have R : Hid (Tells w (sameM t tag t tag m m') (.returned (.bool true)) wr) := by
            refine ⟨⟨true, rfl, ?_⟩, ((KW.out.trans KK.out (fun _ _ h => h)).trans hrel.out.2 (fun _ _ h => h)).below (Nat.le_refl _) (fun _ _ h => h)⟩
            have := hrel.out.1
            rw [hj4, List.take_length] at this
            simpa using HS.out.2 this
          have i1 : ¬ (j : Int) < (l.length : Int) := by omega
          clear hrel hj4
          go_wp2
          go_ret
          exact R.out
    · subst htt
      have dt : ((t : Int) != (t : Int)) = false := by simp
      have dg : ((tag : Int) != (tag' : Int)) = true := by simp; omega
      rw [hW] at c0 c1 d0 d1
      have HW := Lib.hid hW.symm
      have HN : Hid (¬ sameM t tag t tag' m m') := fun h => hgg h.2.1
      clear h1 h2 ht htag ht' htag' hfew k0 hA hB e0 e1 f0 f1 g1 g2 hW hgg
      go_enter Tryd.func14, Tryd.ntmps14
      go_wp2
      go_ret
      rw [HW.out]
      exact ⟨⟨_, rfl, by simpa using HN.out⟩, KW.out.below (Nat.le_refl _) (fun _ _ h => h)⟩
  · have dt : ((t : Int) != (t' : Int)) = true := by simp; omega
    rw [hW] at c0 c1 d0 d1
    have HW := Lib.hid hW.symm
    have HN : Hid (¬ sameM t tag t' tag' m m') := fun h => htt h.1
    clear h1 h2 ht htag ht' htag' hfew k0 hA hB e0 e1 f0 f1 g1 g2 hW htt
    go_enter Tryd.func14, Tryd.ntmps14
    go_wp2
    go_ret
    rw [HW.out]
    exact ⟨⟨_, rfl, by simpa using HN.out⟩, KW.out.below (Nat.le_refl _) (fun _ _ h => h)⟩
end Go.Proofs.YtepiifbleoimkaaDoor
