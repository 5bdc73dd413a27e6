/-
  Package text: Put and Take of whatever text, onto an Out and out of an In.
-/
import Derived.Test.YtepiifbleoimkaaDoorRefTextB
import Derived.Lib.AppendStr
namespace Go.Proofs.YtepiifbleoimkaaDoor
open Go.RowKit Go.Lib
set_option maxRecDepth 100000

/-- The bytes of a text, as a new row. -/
theorem bytes_of (l : List UInt8) (w : World) (hl : l.length ≤ maxLen) :
    ∃ A c w', (convert 9 29 (.string (strOf l))).run Tryd.prog w = .ok (.slice A l.length c) w' ∧ SlIs w' w.heap.size w'.heap.size (.slice A l.length c) l ∧ Below w.heap.size w w' := by
  have hr := run_bytes_of_string (P := Tryd.prog) w 9 29 5 (strOf l) Tryd.underlying9 Tryd.underlying29 Tryd.underlying5
  have hz : (strOf l).size = l.length := strOf_size l
  rw [hz] at hr
  have hge := grownCap_ge w l.length 0 5
  have hcm := grownCap_le_maxLen w l.length 0 5 hl
  generalize grownCap w l.length 0 5 = cap at hr hge hcm
  refine ⟨_, _, _, hr, ⟨_, _, rfl, hge, hcm, fun _ => ⟨_, rfl, Nat.le_refl _, ?_, ?_⟩⟩, ?_⟩
  · show w.heap.size < (w.drew.alloc _).heap.size
    rw [World.size_alloc]
    exact Nat.lt_succ_self _
  · intro j u hu
    have hj : j < l.length := by
      have := (List.getElem?_eq_some_iff.1 hu).1
      rwa [b8s_length] at this
    rw [b8s_get hj] at hu
    injection hu with hu
    subst hu
    have hb := bytesRow_at (strOf l) cap j (by show j < l.toArray.size; simpa using hj)
    have hc := World.cell?_alloc_mark w.drew (bytesRow (strOf l) cap) 5 ((bytesRow (strOf l) cap).size, (bytesRow (strOf l) cap).size + 1) j
    have e : ((⟨w.heap.size, 0, none⟩ : Addr).add j) = ⟨w.heap.size, j, none⟩ := by by_cases hj0 : j = 0 <;> simp [Addr.add, hj0]
    rw [e]
    refine hc.trans (hb.trans ?_)
    simp [strOf, b8]
  · exact (Below.refl w.heap.size w).drew.alloc (Nat.le_refl _) _

/-- What Put adds. -/
def textB (l : List UInt8) : List UInt8 := if wrongOf l = 0 then putI 2 (l.length : Int) ++ l else []
/-- What Put leaves. -/
def TPut (w : World) (B g : Nat) (v : Value) (bs l : List UInt8) (e : Ending) (w' : World) : Prop :=
  ∃ v', e = .returned (.int .i64 (wrongOf l)) ∧ OutAt w' B g v' (bs ++ textB l) ∧ Only (Foot g v) w w' ∧ ∀ i, v'.ownBlock = some i → v.ownBlock = some i ∨ w.heap.size ≤ i
theorem wrongOf_short {l : List UInt8} (h : wrongOf l = 0) : l.length ≤ 64 := by
  rw [wrongOf] at h
  split at h
  · cases h
  · omega

set_option maxHeartbeats 1000000 in
theorem tput_any (B g : Nat) (v : Value) (bs l : List UInt8) (w : World) (h : OutAt w B g v bs) (hT : Tabs w) (hl : l.length ≤ 9223372036854775806) (hbs : bs.length ≤ 140737488355200) :
    Calls Tryd.prog 61 #[.pointer (some ⟨g, 0, none⟩), .string (strOf l)] w (TPut w B g v bs l) := by
  have hz : (strOf l).size = l.length := strOf_size l
  have C := Lib.hid (wrong_any l w hT hl)
  have HO := Lib.hid h
  clear h hT
  by_cases hw : wrongOf l = 0
  · have h64 := wrongOf_short hw
    rw [hw] at C
    go_enter Tryd.func61, Tryd.ntmps61
    go_wp2_with fail
    refine C.out.mono ?_
    rintro e w1 ⟨rfl, hb1⟩
    have k1 : Only (Foot g v) w w1 := (Only.of_below hb1).mono fun i hi h => absurd hi (by omega)
    have o1 : OutAt w1 B g v bs := HO.out.only (Only.of_below hb1) (fun i hi h => by have := (HO.out.foot_lt hi).2; omega)
    have C1 := Lib.hid (put_any B g v bs 2 (l.length : Int) w1 o1 (by omega) (by omega) (by omega))
    have hs1 := hb1.size
    have K1 := Lib.hid k1
    have hwu : IntKind.u64.wrap (l.length : Int) = (l.length : Int) := IntWalk.u64_in _ (by omega)
    clear hb1 k1 o1 C
    go_wp2_with fail
    refine C1.out.mono ?_
    rintro e w2 ⟨v2, rfl, o2, k2, f2⟩
    obtain ⟨A, c, w3, hcv, hsl, hb3⟩ := bytes_of l w2 (by simp only [maxLen]; omega)
    have o3 : OutAt w3 B g v2 (bs ++ putI 2 (l.length : Int)) := o2.only (Only.of_below hb3) (fun i hi h => by have := (o2.foot_lt hi).2; omega)
    have hpl := putI_length 2 (l.length : Int)
    have C2 := Lib.hid (outraw_any B g v2 _ _ l _ _ w3 o3 hsl (by rw [List.length_append, List.length_append]; omega))
    have fin : Hid (∀ e w4, OutStep w3 B g v2 (bs ++ putI 2 (l.length : Int) ++ l) e w4 → TPut w B g v bs l (.returned (.int .i64 0)) w4) := by
      rintro e w4 ⟨v4, _, o4, k4, f4⟩
      have hs2 := k2.size
      have hs3 := hb3.size
      refine ⟨v4, by rw [hw], ?_, ?_, ?_⟩
      · rw [textB, if_pos hw, ← List.append_assoc]
        exact o4
      · refine ((K1.out.trans k2 (fun i _ h => h)).trans (Only.of_below hb3) (fun i hi h => absurd hi (by omega))).trans k4 (fun i hi h => ?_)
        rcases h with h | h
        · exact .inl h
        · rcases f2 i h with h | h
          · exact .inr h
          · omega
      · intro i hi
        rcases f4 i hi with h | h
        · rcases f2 i h with h | h
          · exact .inl h
          · exact .inr (by omega)
        · exact .inr (by omega)
    clear o2 k2 f2 hsl hb3 o3 hpl C1 K1
    go_wp2_with fail
    refine C2.out.mono ?_
    rintro e w4 ho
    have R := fin.out _ _ ho
    obtain ⟨v4, rfl, _⟩ := ho
    have R := Lib.hid R
    clear fin C2 HO
    go_wp2
    go_ret
    exact R.out
  · have hne : (wrongOf l == 0) = false := by simpa using hw
    have hne2 : (wrongOf l != 0) = true := by simpa using hw
    go_enter Tryd.func61, Tryd.ntmps61
    go_wp2_with fail
    refine C.out.mono ?_
    rintro e w1 ⟨rfl, hb1⟩
    have R : Hid (TPut w B g v bs l (.returned (.int .i64 (wrongOf l))) w1) := by
      refine ⟨v, rfl, ?_, (Only.of_below hb1).mono fun i hi h => absurd hi (by omega), fun i hi => .inl hi⟩
      rw [textB, if_neg hw, List.append_nil]
      exact HO.out.only (Only.of_below hb1) (fun i hi h => by have := (HO.out.foot_lt hi).2; omega)
    clear hb1 C HO hw
    generalize wrongOf l = er at hne hne2 R
    go_wp2
    go_ret
    exact R.out

theorem Tabs.only {S : Nat → Prop} {a b : World} (h : Tabs a) (k : Only S a b) (h1 : ¬ S 1) (h2 : ¬ S 2) : Tabs b := by
  refine ⟨fun c hc => ?_, fun i hi => ⟨?_, ?_⟩⟩
  · exact (k.cell (World.block_lt_of_cell? a _ (h.1 c hc)) h1).trans (h.1 c hc)
  · exact (k.cell (World.block_lt_of_cell? a _ (h.2 i hi).1) h2).trans (h.2 i hi).1
  · exact (k.cell (World.block_lt_of_cell? a _ (h.2 i hi).2) h2).trans (h.2 i hi).2

/-- The two takes under a text's Take. -/
def tst (bs : List UInt8) (er : Int) : List UInt8 × List UInt8 × Int := rawSt ((takeSt 2 bs er).1 : Int) (takeSt 2 bs er).2.1 (takeSt 2 bs er).2.2
/-- What Take answers: the text, the error. -/
def tans (bs : List UInt8) (er : Int) : List UInt8 × Int :=
  if (tst bs er).2.2 ≠ 0 then ([], (tst bs er).2.2) else if wrongOf (tst bs er).1 ≠ 0 then ([], wrongOf (tst bs er).1) else ((tst bs er).1, 0)
def TTake (w : World) (lo g : Nat) (bs : List UInt8) (er : Int) (e : Ending) (w' : World) : Prop :=
  e = .returned (.tuple #[.string (strOf (tans bs er).1), .int .i64 (tans bs er).2]) ∧ InAt w' lo g (tst bs er).2.1 (tst bs er).2.2 ∧ Only (fun i => i = g) w w'
theorem takeSt2_lt (bs : List UInt8) (er : Int) : (takeSt 2 bs er).1 < 65536 ∧ (takeSt 2 bs er).2.1.length ≤ bs.length := by
  unfold takeSt
  split
  · simp
  · split
    · simp
    · split
      · simp
      · have h := le_lt (bs.take 2)
        have h2 : (bs.take 2).length ≤ 2 := by rw [List.length_take]; omega
        have h3 : 256 ^ (bs.take 2).length ≤ 256 ^ 2 := Nat.pow_le_pow_right (by omega) h2
        refine ⟨?_, by simp⟩
        show le (bs.take 2) < 65536
        omega
theorem rawSt_len (n : Int) (bs : List UInt8) (er : Int) : (rawSt n bs er).1.length ≤ bs.length := by
  unfold rawSt
  repeat' split
  all_goals simp
  all_goals omega

set_option maxHeartbeats 1000000 in
theorem ttake_any (lo g : Nat) (bs : List UInt8) (er : Int) (w : World) (hI : InAt w lo g bs er) (hT : Tabs w) (h1 : ¬ 1 = g) (h2 : ¬ 2 = g) (hb : bs.length ≤ 140737488355328) :
    Calls Tryd.prog 82 #[.pointer (some ⟨g, 0, none⟩)] w (TTake w lo g bs er) := by
  have C1 := Lib.hid (take_any lo g 2 bs er w hI)
  have hlt := takeSt2_lt bs er
  have HT := Lib.hid hT
  have hrl := rawSt_len ((takeSt 2 bs er).1 : Int) (takeSt 2 bs er).2.1 (takeSt 2 bs er).2.2
  have hts : tst bs er = rawSt ((takeSt 2 bs er).1 : Int) (takeSt 2 bs er).2.1 (takeSt 2 bs er).2.2 := rfl
  generalize takeSt 2 bs er = s1 at C1 hlt hrl hts
  obtain ⟨n, bs1, er1⟩ := s1
  simp only at hlt hrl hts
  rw [← hts] at hrl
  have hte : tans bs er = if (tst bs er).2.2 ≠ 0 then ([], (tst bs er).2.2) else if wrongOf (tst bs er).1 ≠ 0 then ([], wrongOf (tst bs er).1) else ((tst bs er).1, 0) := rfl
  have fin : ∀ w' a, Only (fun i => i = g) w w' → InAt w' lo g (tst bs er).2.1 (tst bs er).2.2 → tans bs er = a → TTake w lo g bs er (.returned (.tuple #[.string (strOf a.1), .int .i64 a.2])) w' := by
    rintro w' _ k hi rfl
    exact ⟨rfl, hi, k⟩
  have HF := Lib.hid fin
  have Hts := Lib.hid hts
  have Hte := Lib.hid hte
  have hwu : IntKind.i64.wrap (n : Int) = (n : Int) := IntWalk.i64_in _ (by omega)
  clear fin hI hT hts hte
  go_enter Tryd.func82, Tryd.ntmps82
  go_wp2_with fail
  refine C1.out.mono ?_
  rintro e w1 ⟨rfl, i1, k1⟩
  have C2 := Lib.hid (raw_any lo g (n : Int) bs1 er1 w1 i1 (by omega))
  rw [← Hts.out] at C2
  have K1 := Lib.hid k1
  clear i1 k1 C1
  simp only
  go_wp2_with fail
  refine C2.out.mono ?_
  rintro e w2 ⟨u, rfl, ow, i2, k2⟩
  have hcv := run_str u _ _ _ w2 (owns_SlIs ow)
  have K2 : Hid (Only (fun i => i = g) w w2) := K1.out.trans k2 (fun _ _ h => h)
  have C3 := Lib.hid (err_any lo g _ _ w2 i2)
  have I2 := Lib.hid i2
  have hT2 : Tabs w2 := HT.out.only K2.out h1 h2
  have C4 := Lib.hid (wrong_any (tst bs er).1 w2 hT2 (by omega))
  clear ow i2 k2 K1 C2 hT2 Hts
  generalize hst : tst bs er = st at hcv C3 C4 I2 Hte HF hrl
  obtain ⟨x, bs2, er2⟩ := st
  simp only at hcv C3 C4 I2 Hte HF hrl
  go_wp2_with fail
  refine C3.out.mono ?_
  rintro e w' ⟨rfl, rfl⟩
  clear C3
  by_cases he : er2 = 0
  · subst he
    have hte := Hte.out
    rw [if_neg (by simp)] at hte
    have Hte := Lib.hid hte
    clear hte
    go_wp2_with fail
    refine C4.out.mono ?_
    rintro e w3 ⟨rfl, hb3⟩
    have hlt2 := I2.out.lt
    have k3 : Only (fun i => i = g) w w3 := K2.out.trans (Only.of_below hb3) (fun i hi h => absurd hi (by have := K2.out.size; omega))
    have i3 := I2.out.only (Only.of_below hb3) (fun i _ hi h => by omega)
    by_cases hw : wrongOf x = 0
    · rw [hw]
      have R := Lib.hid (HF.out _ _ k3 i3 (by rw [Hte.out, if_neg (by simp [hw])]))
      clear C4 HF hb3 k3 i3 I2 K2
      go_wp2
      go_ret2
      exact R.out
    · have R := Lib.hid (HF.out _ _ k3 i3 (by rw [Hte.out, if_pos hw]))
      have hne : (wrongOf x == 0) = false := by simpa using hw
      have hne2 : (wrongOf x != 0) = true := by simpa using hw
      clear C4 HF hb3 k3 i3 I2 K2 Hte hw
      generalize wrongOf x = ew at hne hne2 R ⊢
      go_wp2
      go_ret2
      exact R.out
  · have R := Lib.hid (HF.out _ _ K2.out I2.out (by rw [Hte.out, if_pos he]))
    have hne : (er2 == 0) = false := by simpa using he
    have hne2 : (er2 != 0) = true := by simpa using he
    clear C4 HF I2 K2 Hte he
    go_wp2
    go_ret2
    exact R.out
end Go.Proofs.YtepiifbleoimkaaDoor
