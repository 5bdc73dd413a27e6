/-
  Package msg: whole: the message that an In is, to its end.
-/
import Derived.Test.YtepiifbleoimkaaDoorMsgJ
namespace Go.Proofs.YtepiifbleoimkaaDoor
open Go.RowKit
set_option maxRecDepth 100000

/-- The message that bytes are: its Type, its Tag, what the Type names. -/
def decM (bs : List UInt8) : Option (Nat × Nat × List F) :=
  (tkN 1 bs).bind fun a => (tkN 2 a.2).bind fun b => (namedOf a.1).bind fun l => (tkL (l.map (·.1)) b.2).bind fun x => if x.2 = [] then some (a.1, b.1, x.1) else none
def WholeStep (w : World) (g : Nat) (r : Option (Nat × Nat × List F)) (e : Ending) (w' : World) : Prop :=
  match r with
  | none => e = .panicked [{ v := .iface 36 (.int .i64 2), recovered := false }] ∧ Only (fun i => i = g) w w'
  | some (t, tag, fs) => ∃ cs m l, e = .returned (.agg cs) ∧ MgAt w' w.heap.size w'.heap.size cs m ∧ m 0 = .num 1 t ∧ m 1 = .num 2 tag ∧ namedOf t = some l ∧ fieldsOf m l = fs ∧ (∀ p ∈ places, (m p.2).Ok ∧ (m p.2).Few) ∧ Only (fun i => i = g) w w'
/-- What is told once Type and Tag are taken. -/
def endOf (t tag : Nat) (r : Option (List F × List UInt8)) : Option (Nat × Nat × List F) := r.bind fun x => if x.2 = [] then some (t, tag, x.1) else none
theorem decM_known {bs : List UInt8} {t tag : Nat} {b1 b3 : List UInt8} {e1 e3 : Int} {l : List (K × Nat)} (h1 : takeSt 1 bs 0 = (t, b1, e1)) (h2 : takeSt 2 b1 e1 = (tag, b3, e3)) (hl : namedOf t = some l) :
    decM bs = endOf t tag (if e3 = 0 then tkL (l.map (·.1)) b3 else none) := by
  have a1 := @tkN_of 1 bs 0
  have n1 := @tkN_none 1 bs
  have a2 := @tkN_of 2 b1 e1
  have n2 := @tkN_none 2 b1
  rw [show takeSt ((1 : Nat) : Int) bs 0 = (t, b1, e1) from h1] at a1 n1
  rw [show takeSt ((2 : Nat) : Int) b1 e1 = (tag, b3, e3) from h2] at a2
  simp only at a1 n1 a2
  unfold decM
  by_cases h3 : e3 = 0
  · obtain ⟨h0, x2⟩ := a2 h3
    obtain ⟨_, x1⟩ := a1 h0
    rw [if_pos h3, x1, Option.bind_some]
    simp only
    rw [x2, Option.bind_some, hl, Option.bind_some]
    rfl
  · rw [if_neg h3]
    by_cases h0 : e1 = 0
    · obtain ⟨_, x1⟩ := a1 h0
      rw [x1, Option.bind_some]
      simp only
      rw [h0] at h2
      rw [n2 (by rw [show takeSt ((2 : Nat) : Int) b1 0 = (tag, b3, e3) from h2]; exact h3)]
      rfl
    · rw [n1 h0]
      rfl
theorem decM_unknown {bs : List UInt8} {t : Nat} {b1 : List UInt8} {e1 : Int} (h1 : takeSt 1 bs 0 = (t, b1, e1)) (hl : namedOf t = none) : decM bs = none := by
  have a1 := @tkN_of 1 bs 0
  have n1 := @tkN_none 1 bs
  rw [show takeSt ((1 : Nat) : Int) bs 0 = (t, b1, e1) from h1] at a1 n1
  simp only at a1 n1
  unfold decM
  by_cases h0 : e1 = 0
  · obtain ⟨_, x1⟩ := a1 h0
    rw [x1, Option.bind_some]
    simp only
    cases tkN 2 b1 with
    | none => rfl
    | some b =>
      rw [Option.bind_some, hl]
      rfl
  · rw [n1 h0]
    rfl
def preL (L : List F) (r : Option (List F × List UInt8)) : Option (List F × List UInt8) := r.map fun y => (L ++ y.1, y.2)
theorem preL_nil (r : Option (List F × List UInt8)) : preL [] r = r := by cases r <;> rfl
theorem tkL_step {k : K} {ks : List K} {bs r : List UInt8} {f : F} {L : List F} (h : tkF k bs = some (f, r)) : preL L (tkL (k :: ks) bs) = preL (L ++ [f]) (tkL ks r) := by
  rw [tkL, h, Option.bind_some]
  cases tkL ks r <;> simp [preL]
theorem tkL_stop {k : K} {ks : List K} {bs : List UInt8} {L : List F} (h : tkF k bs = none) : preL L (tkL (k :: ks) bs) = none := by
  rw [tkL, h]
  rfl
/-- At the loop's head: j fields are taken. -/
structure WI (w : World) (lo g mb gg t tag : Nat) (l : List (K × Nat)) (n : Nat) (r0 : Option (List F × List UInt8)) (j : Nat) (rest : List UInt8) (er : Int) (cs : Array Value) (m : Nat → F) (wr : World) : Prop where
  inn : InAt wr lo g rest er
  msg : Has wr mb 33 cs
  res : Has wr w.heap.size 33 (zeroCells 0 0)
  lst : ∀ i (h : i < l.length), wr.cell? ⟨gg, i, none⟩ = some (fieldV mb l[i])
  gap : 0 < l.length → mb < gg ∧ gg < wr.heap.size
  low : Only (fun i => i = g) w wr
  mg : MgAt wr (mb + 1) wr.heap.size cs m
  zer : ∀ p ∈ places, p ∉ l.take j → m p.2 = zeroM t tag p.2
  yes : er = 0 → r0 = preL (fieldsOf m (l.take j)) (tkL ((l.drop j).map (·.1)) rest)
  no : er ≠ 0 → r0 = none
  few : rest.length ≤ n
theorem WI.step {w wr w2 : World} {lo g mb gg t tag : Nat} {l : List (K × Nat)} {n : Nat} {r0 : Option (List F × List UInt8)} {j : Nat} {rest rest' : List UInt8} {er er' : Int} {cs cs' : Array Value} {m : Nat → F} {f : F}
    (I : WI w lo g mb gg t tag l n r0 j rest er cs m wr) (hj : j < l.length) (hg : lo ≤ g ∧ g < w.heap.size) (hmb : w.heap.size < mb) (hpl : ∀ p ∈ l, p ∈ places) (hnd : (l.map (·.2)).Nodup)
    (hf : f.kind = l[j].1) (hm : Has w2 mb 33 cs') (hs : cs'.size = cs.size) (ha : FAt w2 wr.heap.size w2.heap.size cs' l[j].2 f) (ho : ∀ i, i < l[j].2 ∨ l[j].2 + l[j].1.size ≤ i → cs'[i]? = cs[i]?)
    (i2 : InAt w2 lo g rest' er') (k2 : Only (fun i => i = g ∨ i = mb) wr w2) (hl : rest'.length ≤ rest.length) (hy : er' = 0 → tkE l[j].1 rest er = some (f, rest')) (hn : er' ≠ 0 → tkE l[j].1 rest er = none) :
    WI w lo g mb gg t tag l n r0 (j + 1) rest' er' cs' (upd m l[j].2 f) w2 := by
  have hsz := I.low.size
  have hs2 := k2.size
  have hml := I.msg.lt
  have hpj := hpl l[j] (List.getElem_mem hj)
  have hgap := I.gap (by omega)
  have hdrop : (l.drop j).map (·.1) = l[j].1 :: (l.drop (j + 1)).map (·.1) := by rw [List.drop_eq_getElem_cons hj, List.map_cons]
  have kk : ∀ q : Addr, mb + 1 ≤ q.block → q.block < wr.heap.size → w2.cell? q = wr.cell? q := k2.keeps (Nat.le_refl _) (fun i hi _ h => by omega)
  refine ⟨i2, hm, I.res.only k2 (by omega), fun i hi => (kk ⟨gg, i, none⟩ (by simp only; omega) (by simp only; omega)).trans (I.lst i hi), fun _ => ⟨hgap.1, by omega⟩, I.low.trans k2 (fun i hi h => by omega), ?_, ?_, ?_, ?_, by have := I.few; omega⟩
  · exact I.mg.put hpj hf hs2 hs kk (ha.wide (by omega) (Nat.le_refl _)) ho
  · intro p hp hnl
    rw [List.take_succ_eq_append_getElem hj] at hnl
    simp only [List.mem_append, List.mem_singleton, not_or] at hnl
    rw [upd_other _ _ ?_]
    · exact I.zer p hp hnl.1
    · intro he
      rcases places_apart p hp l[j] hpj with h | h
      · exact hnl.2 h
      · have := size_pos p.1
        have := size_pos l[j].1
        omega
  · intro h0
    have hE := hy h0
    have her : er = 0 := Decidable.byContradiction fun hne => by rw [tkE, if_neg hne] at hE; cases hE
    rw [tkE, if_pos her] at hE
    rw [I.yes her, hdrop, tkL_step hE, fieldsOf_upd m l j hj f hnd]
  · intro h0
    have hE := hn h0
    by_cases her : er = 0
    · rw [tkE, if_pos her] at hE
      rw [I.yes her, hdrop, tkL_stop hE]
    · exact I.no her
theorem WI.stop {w wr : World} {lo g mb gg t tag : Nat} {l : List (K × Nat)} {n : Nat} {r0 : Option (List F × List UInt8)} {j : Nat} {rest : List UInt8} {er : Int} {cs : Array Value} {m : Nat → F}
    (I : WI w lo g mb gg t tag l n r0 j rest er cs m wr) (hj : j < l.length) (hn : tkE l[j].1 rest er = none) : r0 = none := by
  have hdrop : (l.drop j).map (·.1) = l[j].1 :: (l.drop (j + 1)).map (·.1) := by rw [List.drop_eq_getElem_cons hj, List.map_cons]
  by_cases her : er = 0
  · rw [tkE, if_pos her] at hn
    rw [I.yes her, hdrop, tkL_stop hn]
  · exact I.no her
theorem zeroF_ok {t tag : Nat} (h1 : t < 256) (h2 : tag < 65536) : ∀ p ∈ places, (zeroM t tag p.2).Ok ∧ (zeroM t tag p.2).Few := by
  have hq : Q3.zero.Ok := ⟨by decide, by decide, by decide⟩
  intro p hp
  simp only [places, List.mem_cons, List.not_mem_nil, or_false] at hp
  rcases hp with rfl | rfl | rfl | rfl | rfl | rfl | rfl | rfl | rfl | rfl | rfl | rfl | rfl | rfl | rfl | rfl | rfl | rfl | rfl | rfl | rfl | rfl
  · exact ⟨⟨by decide, by decide, h1⟩, trivial⟩
  · exact ⟨⟨by decide, by decide, h2⟩, trivial⟩
  all_goals first
    | exact ⟨⟨by decide, by decide, by decide⟩, trivial⟩
    | exact ⟨trivial, (by decide : (0 : Nat) ≤ 1000)⟩
    | exact ⟨trivial, (by decide : (0 : Nat) ≤ 100000)⟩
    | exact ⟨trivial, (by decide : (0 : Nat) ≤ 1000), fun l hl => absurd hl (by simp)⟩
    | exact ⟨fun q hq => absurd hq (by simp), (by decide : (0 : Nat) ≤ 1000)⟩
    | exact ⟨hq, trivial⟩
    | exact ⟨⟨by decide, by decide, hq, by decide, by decide, by decide, by decide⟩, ⟨by decide, by decide, by decide, by decide⟩⟩
/-- No Type names Type or Tag. -/
def stdT (l : List (K × Nat)) : Bool := l.all fun p => decide (2 ≤ p.2)
theorem named_stdT {t : Nat} (h : isType t) : stdT ((namedOf t).getD []) = true := by
  rcases isType_cases h with rfl | rfl | rfl | rfl | rfl | rfl | rfl | rfl | rfl | rfl | rfl | rfl | rfl | rfl | rfl | rfl | rfl | rfl | rfl | rfl | rfl | rfl | rfl | rfl | rfl | rfl | rfl <;> decide
theorem named_noT {t : Nat} {l : List (K × Nat)} (h : namedOf t = some l) : stdT l = true := by
  have := named_stdT (isType_named h)
  rw [h] at this
  exact this
/-- Behind the loop. -/
theorem WI.fin {w wr : World} {lo g mb gg t tag : Nat} {l : List (K × Nat)} {n : Nat} {b3 : List UInt8} {e3 : Int} {cs : Array Value} {m : Nat → F} (I : WI w lo g mb gg t tag l n (if e3 = 0 then tkL (l.map (·.1)) b3 else none) l.length [] 0 cs m wr)
    (hl : namedOf t = some l) (h1 : t < 256) (h2 : tag < 65536) : endOf t tag (if e3 = 0 then tkL (l.map (·.1)) b3 else none) = some (t, tag, fieldsOf m l) ∧ m 0 = .num 1 t ∧ m 1 = .num 2 tag ∧ ∀ p ∈ places, (m p.2).Ok ∧ (m p.2).Few := by
  have hr := I.yes rfl
  rw [List.take_length, List.drop_length] at hr
  simp only [List.map_nil, tkL, preL, Option.map_some, List.append_nil] at hr
  obtain ⟨hpl, hnd⟩ := named_mem hl
  obtain ⟨hstd, _⟩ := named_std hl
  have hok : ∀ f ∈ fieldsOf m l, f.Ok ∧ f.Few := by
    by_cases h3 : e3 = 0
    · rw [if_pos h3] at hr
      exact (tkL_some _ _ _ _ (fun k hk => by obtain ⟨p, hp, rfl⟩ := List.mem_map.1 hk; exact (hstd p hp).2.1) hr).2.2.2
    · rw [if_neg h3] at hr
      cases hr
  have hz := I.zer
  rw [List.take_length] at hz
  have n0 : ((K.num 1, 0) : K × Nat) ∉ l := fun h => by
    have h0 : stdT l = true := named_noT hl
    exact absurd (List.all_eq_true.1 h0 _ h) (by decide)
  have n1 : ((K.num 2, 1) : K × Nat) ∉ l := fun h => by
    have h0 : stdT l = true := named_noT hl
    exact absurd (List.all_eq_true.1 h0 _ h) (by decide)
  refine ⟨by rw [endOf, hr]; simp, hz (.num 1, 0) (by decide) n0, hz (.num 2, 1) (by decide) n1, fun p hp => ?_⟩
  by_cases hpm : p ∈ l
  · exact hok _ (List.mem_map.2 ⟨p, hpm, rfl⟩)
  · rw [hz p hp hpm]
    exact zeroF_ok h1 h2 p hp
end Go.Proofs.YtepiifbleoimkaaDoor
