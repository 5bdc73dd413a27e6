/-
  Package stat: Encode of whatever record.
-/
import Derived.Test.YtepiifbleoimkaaDoorStatA
namespace Go.Proofs.YtepiifbleoimkaaDoor
open Go.RowKit
set_option maxRecDepth 100000

set_option maxHeartbeats 2000000 in
theorem putnumbers_any (B g : Nat) (v : Value) (bs : List UInt8) (s : S11) (w : World) (h : OutAt w B g v bs) (hs : s.Num) (hl : bs.length ≤ 100000) :
    Calls Tryd.prog 79 #[.pointer (some ⟨g, 0, none⟩), s.val] w (OutStep w B g v (bs ++ numsB s)) := by
  obtain ⟨h1, h2, h3, h4, h5, h6, h7⟩ := hs
  obtain ⟨w0, hw0⟩ : ∃ w0, w0 = w.alloc (.cells s.cells 31) := ⟨_, rfl⟩
  have hN : Has w0 w.heap.size 31 s.cells := by rw [hw0]; exact Has.new _ _ _
  have hk : Only (fun _ => False) w w0 := by rw [hw0]; exact (Only.refl _ w).alloc _
  have hf : ¬ Foot g v w.heap.size := fun hf => by have := (h.foot_lt hf).2; omega
  have C0 := Lib.hid (Chain.start (h.only hk (fun _ _ h => h)))
  have HN := Lib.hid (fun (w1 : World) (bs : List UInt8) (v1 : Value) (c : Chain w0 B g v bs w1 v1) => hN.only c.only hf)
  have HK := Lib.hid hk
  have e1 : putI 2 (s.k : Int) = putB 2 s.k := putI_of 2 _ (by omega) (by omega)
  have e2 : putI 4 (s.d : Int) = putB 4 s.d := putI_of 4 _ (by omega) (by omega)
  have e4 : putI 4 (s.m : Int) = putB 4 s.m := putI_of 4 _ (by omega) (by omega)
  have e5 : putI 4 (s.a : Int) = putB 4 s.a := putI_of 4 _ (by omega) (by omega)
  have e6 : putI 4 (s.c : Int) = putB 4 s.c := putI_of 4 _ (by omega) (by omega)
  have e7 : putI 8 (s.l : Int) = putB 8 s.l := putI_of 8 _ (by omega) (by omega)
  have E : Hid (bs ++ putI 2 (s.k : Int) ++ putI 4 (s.d : Int) ++ qidB s.q ++ putI 4 (s.m : Int) ++ putI 4 (s.a : Int) ++ putI 4 (s.c : Int) ++ putI 8 (s.l : Int) = bs ++ numsB s) := by
    refine Lib.hid ?_
    rw [e1, e2, e4, e5, e6, e7]
    simp only [numsB, List.append_assoc]
  have l1 := putI_length 2 (s.k : Int)
  have l2 := putI_length 4 (s.d : Int)
  have l3 := qidB_length s.q
  have l4 := putI_length 4 (s.m : Int)
  have l5 := putI_length 4 (s.a : Int)
  have l6 := putI_length 4 (s.c : Int)
  have x1 : IntKind.u64.wrap (s.k : Int) = (s.k : Int) := IntWalk.u64_in _ (by omega)
  have x2 : IntKind.u64.wrap (s.d : Int) = (s.d : Int) := IntWalk.u64_in _ (by omega)
  have x4 : IntKind.u64.wrap (s.m : Int) = (s.m : Int) := IntWalk.u64_in _ (by omega)
  have x5 : IntKind.u64.wrap (s.a : Int) = (s.a : Int) := IntWalk.u64_in _ (by omega)
  have x6 : IntKind.u64.wrap (s.c : Int) = (s.c : Int) := IntWalk.u64_in _ (by omega)
  have HQ := Lib.hid h3
  have c := (HN.out _ _ _ C0.out).cell 0
  simp only [S11.cells] at c
  simp at c
  clear hN hk h hf e1 e2 e4 e5 e6 e7 h3
  unfold S11.val
  rw [hw0] at c
  unfold S11.cells at hw0 c ⊢
  go_enter Tryd.func79, Tryd.ntmps79
  go_wp2_with fail
  rw [← hw0]
  clear hw0
  refine (put_any B g v bs 2 (s.k : Int) _ C0.out.out (by omega) (by omega) (by omega)).mono ?_
  intro e w1 st
  obtain ⟨v1, rfl, c1⟩ := C0.out.step st
  have C1 := Lib.hid c1
  clear c c1 st C0
  have c := (HN.out _ _ _ C1.out).cell 1
  simp only [S11.cells] at c
  simp at c
  go_wp2_with fail
  refine (put_any B g v1 _ 4 (s.d : Int) _ C1.out.out (by omega) (by omega) (by simp only [List.length_append]; omega)).mono ?_
  intro e w2 st
  obtain ⟨v2, rfl, c1⟩ := C1.out.step st
  have C2 := Lib.hid c1
  clear c c1 st C1
  have ca := (HN.out _ _ _ C2.out).cell 2
  have cb := (HN.out _ _ _ C2.out).cell 3
  have cc := (HN.out _ _ _ C2.out).cell 4
  simp only [S11.cells] at ca cb cc
  simp at ca cb cc
  have CQ : Hid (Calls Tryd.prog 45 #[.pointer (some ⟨g, 0, none⟩), .agg #[.int .u8 (s.q.t : Int), .int .u32 (s.q.v : Int), .int .u64 (s.q.p : Int)]] w2 (OutStep w2 B g v2 (bs ++ putI 2 (s.k : Int) ++ putI 4 (s.d : Int) ++ qidB s.q))) :=
    qidput_any B g v2 _ s.q w2 C2.out.out HQ.out (by simp only [List.length_append]; omega)
  go_wp2_with fail
  refine CQ.out.mono ?_
  intro e w3 st
  obtain ⟨v3, rfl, c1⟩ := C2.out.step st
  have C3 := Lib.hid c1
  clear ca cb cc c1 st C2 CQ
  have c := (HN.out _ _ _ C3.out).cell 5
  simp only [S11.cells] at c
  simp at c
  go_wp2_with fail
  refine (put_any B g v3 _ 4 (s.m : Int) _ C3.out.out (by omega) (by omega) (by simp only [List.length_append]; omega)).mono ?_
  intro e w4 st
  obtain ⟨v4, rfl, c1⟩ := C3.out.step st
  have C4 := Lib.hid c1
  clear c c1 st C3
  have c := (HN.out _ _ _ C4.out).cell 6
  simp only [S11.cells] at c
  simp at c
  go_wp2_with fail
  refine (put_any B g v4 _ 4 (s.a : Int) _ C4.out.out (by omega) (by omega) (by simp only [List.length_append]; omega)).mono ?_
  intro e w5 st
  obtain ⟨v5, rfl, c1⟩ := C4.out.step st
  have C5 := Lib.hid c1
  clear c c1 st C4
  have c := (HN.out _ _ _ C5.out).cell 7
  simp only [S11.cells] at c
  simp at c
  go_wp2_with fail
  refine (put_any B g v5 _ 4 (s.c : Int) _ C5.out.out (by omega) (by omega) (by simp only [List.length_append]; omega)).mono ?_
  intro e w6 st
  obtain ⟨v6, rfl, c1⟩ := C5.out.step st
  have C6 := Lib.hid c1
  clear c c1 st C5
  have c := (HN.out _ _ _ C6.out).cell 8
  simp only [S11.cells] at c
  simp at c
  go_wp2_with fail
  refine (put_any B g v6 _ 8 (s.l : Int) _ C6.out.out (by omega) (by omega) (by simp only [List.length_append]; omega)).mono ?_
  intro e w7 st
  obtain ⟨v7, rfl, c1⟩ := C6.out.step st
  rw [E.out] at c1
  have R := Lib.hid (c1.fin HK.out)
  clear c c1 st C6
  go_wp2
  go_end0
  exact R.out

/-- What the texts' adding leaves: all of them, or the error of the first that may not be one. -/
def TextsStep (w : World) (B g : Nat) (v : Value) (bs : List UInt8) (L : List (List UInt8)) (e : Ending) (w' : World) : Prop :=
  (wrongL L = 0 ∧ OutStep w B g v (bs ++ textsB L) e w') ∨ (wrongL L ≠ 0 ∧ e = .panicked [{ v := .iface 36 (.int .i64 (wrongL L)), recovered := false }] ∧ Only (Foot g v) w w')
def TextsInv (w0 : World) (B g : Nat) (v : Value) (bs : List UInt8) (L : List (List UInt8)) (j : Nat) (wr : World) : Prop :=
  wrongL (L.take j) = 0 ∧ ∃ v1, Chain w0 B g v (bs ++ textsB (L.take j)) wr v1
theorem textsB_succ (L : List (List UInt8)) (j : Nat) (h : j < L.length) : textsB (L.take (j + 1)) = textsB (L.take j) ++ textB L[j] := by
  unfold textsB
  rw [List.take_succ_eq_append_getElem h, List.flatMap_append]
  simp
theorem wrongL_succ (L : List (List UInt8)) (j : Nat) (h : j < L.length) (h0 : wrongL (L.take j) = 0) : wrongL (L.take (j + 1)) = wrongOf L[j] := by
  rw [List.take_succ_eq_append_getElem h, wrongL_append _ _ h0, wrongL, wrongL]
  split
  · rename_i h
    exact h.symm
  · rfl
theorem wrongL_stop (L : List (List UInt8)) (j : Nat) (h : j < L.length) (h0 : wrongL (L.take j) = 0) (h1 : wrongOf L[j] ≠ 0) : wrongL L = wrongOf L[j] := by
  conv => lhs; rw [← List.take_append_drop j L]
  rw [wrongL_append _ _ h0, List.drop_eq_getElem_cons h, wrongL, if_neg h1]

set_option maxHeartbeats 2000000 in
theorem puttexts_any (B g : Nat) (v : Value) (bs : List UInt8) (s : S11) (w : World) (h : OutAt w B g v bs) (hs : s.Few) (hl : bs.length ≤ 100000) (hT : Tabs w) (hB : 1 < B ∧ 2 < B) :
    Calls Tryd.prog 80 #[.pointer (some ⟨g, 0, none⟩), s.val] w (TextsStep w B g v bs s.texts) := by
  obtain ⟨w0, hw0⟩ : ∃ w0, w0 = (w.alloc (.cells s.cells 31)).alloc (.cells #[.string (strOf s.n), .string (strOf s.u), .string (strOf s.g), .string (strOf s.x)] 9) := ⟨_, rfl⟩
  have hN : Has (w.alloc (.cells s.cells 31)) w.heap.size 31 s.cells := Has.new _ _ _
  have hR : Has w0 (w.heap.size + 1) 9 #[.string (strOf s.n), .string (strOf s.u), .string (strOf s.g), .string (strOf s.x)] := by
    have := Has.new (w.alloc (.cells s.cells 31)) 9 #[.string (strOf s.n), .string (strOf s.u), .string (strOf s.g), .string (strOf s.x)]
    rw [hw0]
    simpa using this
  have hk : Only (fun _ => False) w w0 := by rw [hw0]; exact ((Only.refl _ w).alloc _).alloc _
  have hft : ∀ i, Foot g v i → B ≤ i ∧ i < w.heap.size := fun i hi => h.foot_lt hi
  have hf : ¬ Foot g v (w.heap.size + 1) := fun hf => by have := (hft _ hf).2; omega
  have C0 := Chain.start (h.only hk (fun _ _ h => h))
  have I0 : Hid (TextsInv w0 B g v bs s.texts 0 w0) := ⟨rfl, v, by simpa [textsB] using C0⟩
  have HR := Lib.hid (fun (w1 : World) (bs : List UInt8) (v1 : Value) (c : Chain w0 B g v bs w1 v1) => hR.only c.only hf)
  have HT := Lib.hid (fun (w1 : World) (bs : List UInt8) (v1 : Value) (c : Chain w0 B g v bs w1 v1) => (hT.only hk (fun h => h) (fun h => h)).only c.only (fun h => by have := (hft _ h).1; omega) (fun h => by have := (hft _ h).1; omega))
  have HK := Lib.hid hk
  have HL : Hid (∀ j (hj : j < 4), (s.texts[j]'hj).length ≤ 1000) := by
    obtain ⟨h1, h2, h3, h4⟩ := hs
    intro j hj
    match j, hj with
    | 0, _ => exact h1
    | 1, _ => exact h2
    | 2, _ => exact h3
    | 3, _ => exact h4
  have HC : Hid (∀ j (hj : j < 4), (#[Value.string (strOf s.n), .string (strOf s.u), .string (strOf s.g), .string (strOf s.x)] : Array Value)[j]? = some (.string (strOf (s.texts[j]'hj)))) := by
    intro j hj
    match j, hj with
    | 0, _ => rfl
    | 1, _ => rfl
    | 2, _ => rfl
    | 3, _ => rfl
  have c9 := hN.cell 9
  have c10 := hN.cell 10
  have c11 := hN.cell 11
  have c12 := hN.cell 12
  simp only [S11.cells] at c9 c10 c11 c12
  simp at c9 c10 c11 c12
  have hlen : s.texts.length = 4 := rfl
  obtain ⟨L, hLe⟩ : ∃ L, L = s.texts := ⟨_, rfl⟩
  unfold S11.val
  clear hN hk h hf hR hT hft C0 hs
  unfold S11.cells at *
  go_enter Tryd.func80, Tryd.ntmps80
  go_wp2_with fail
  rw [← hw0]
  clear hw0 c9 c10 c11 c12
  go_loopw [17] (fun i wr => ∃ j : Nat, j ≤ 4 ∧ i = .int .i64 j ∧ Hid (TextsInv w0 B g v bs s.texts j wr)) (fun i _ => 4 - (intOf i).toNat)
  case atStart => exact ⟨0, Nat.zero_le _, rfl, I0⟩
  case round =>
    obtain ⟨j, hj, rfl, hrel⟩ := hrel
    clear I0
    obtain ⟨h0, v1, hC⟩ := hrel.out
    by_cases hlt : j < 4
    · have hc : wr.cell? ⟨w.heap.size + 1, j, none⟩ = _ := ((HR.out _ _ _ hC).cell j).trans (HC.out j hlt)
      have i0 : (0 : Int) ≤ (j : Int) := by omega
      have i1 : (j : Int) < 4 := by omega
      have hle := textsB_le (s.texts.take j)
      rw [List.length_take] at hle
      have hlj := HL.out j hlt
      have C : Hid (Calls Tryd.prog 61 #[.pointer (some ⟨g, 0, none⟩), .string (strOf (s.texts[j]'hlt))] wr (TPut wr B g v1 (bs ++ textsB (s.texts.take j)) (s.texts[j]'hlt))) :=
        tput_any B g v1 _ _ wr hC.out (HT.out _ _ _ hC) (by omega) (by rw [List.length_append]; omega)
      have h2 := wrongL_succ s.texts j hlt h0
      have h3 := wrongL_stop s.texts j hlt h0
      have h4 := textsB_succ s.texts j hlt
      obtain ⟨t, ht⟩ : ∃ t, t = s.texts[j]'hlt := ⟨_, rfl⟩
      rw [← ht] at C hc h2 h3 h4
      have fin : Hid (∀ e w2, TPut wr B g v1 (bs ++ textsB (s.texts.take j)) t e w2 → e = .returned (.int .i64 (wrongOf t)) ∧ (wrongOf t = 0 → TextsInv w0 B g v bs s.texts (j + 1) w2) ∧ (wrongOf t ≠ 0 → Only (Foot g v) w w2)) := by
        rintro e w2 ⟨v2, he, o2, f2, g2⟩
        obtain ⟨v3, _, c3⟩ := hC.step ⟨v2, rfl, o2, f2, g2⟩
        refine ⟨he, fun hz => ⟨by rw [h2, hz], v3, ?_⟩, fun _ => ?_⟩
        · rw [h4, ← List.append_assoc]
          exact c3
        · exact (HK.out.mono (fun _ _ h => h.elim)).trans c3.only (fun _ _ h => h)
      have H3 := Lib.hid h3
      clear hC h0 hrel hle hlj h2 h3 h4 ht
      go_wp2_with fail
      refine C.out.mono ?_
      intro e w2 hst
      obtain ⟨rfl, hy, hn⟩ := fin.out e w2 hst
      clear hst fin C hc
      by_cases hz : wrongOf t = 0
      · have R := Lib.hid (hy hz)
        rw [hz]
        clear hy hn H3
        go_wp2_with fail
        refine (must_yes 0 w2).mono ?_
        rintro e w' ⟨rfl, rfl⟩
        go_wp2
        go_roundw
        case rel => exact ⟨j + 1, by omega, by go_num, R⟩
        case measure => simp [intOf]; omega
      · have R : Hid (TextsStep w B g v bs s.texts (.panicked [{ v := .iface 36 (.int .i64 (wrongOf t)), recovered := false }]) w2) := by
          have e1 := H3.out hz
          exact .inr ⟨by rw [e1]; exact hz, by rw [e1], hn hz⟩
        have hzb : (wrongOf t == 0) = false := by simpa using hz
        generalize wrongOf t = er at R hzb
        clear hy hn H3
        go_wp2_with fail
        refine (must_no er w2).mono ?_
        rintro e w' ⟨rfl, rfl⟩
        go_wp2
        exact ⟨rfl, R.out⟩
    · have hj4 : j = 4 := by omega
      subst hj4
      have R : Hid (TextsStep w B g v bs s.texts (.returned (.tuple #[])) wr) := .inl ⟨h0, hC.fin HK.out⟩
      clear hC h0 hrel
      go_wp2
      go_end0
      exact R.out
end Go.Proofs.YtepiifbleoimkaaDoor
