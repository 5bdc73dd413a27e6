/-
  Messages as they came in, by value.
-/
import Derived.Test.YtepiifbleoimkaaDoorPackMsgC
import Derived.Test.YtepiifbleoimkaaDoorOpenStat
import Derived.Deep.Strs
namespace Go.Proofs.YtepiifbleoimkaaDoor
open Go.ChangeShapes Go.WideShapes Go.RowKit Go.Deep
set_option maxRecDepth 100000

theorem Tryd.msgCells : Tryd.prog.cellsOf 33 = 36 := by kernel_rfl
theorem at_take {l : List Value} {off n : Nat} {L : List Value} (h : (l.drop off).take n = L) (j : Nat) (hj : j < n) : l[off + j]? = L[j]? := by
  rw [← h, List.getElem?_take, if_pos hj, List.getElem?_drop]
theorem at_one {l : List Value} {off : Nat} {v : Value} (h : (l.drop off).take 1 = [v]) : l[off]? = some v := at_take h 0 (by omega)

section
variable {H : Type} {enc : TypeId × Value → H} {w : World} {base : Nat} {spare : Nat → Bool} {held : Bool}

theorem open_texts {fuel : Nat} {cs : List Value} {x : DataW H × List MemPlace} (h : DataW.trod enc Tryd.prog w base spare held fuel 24 cs = some x) : ∃ v L, cs = [v] ∧ StrsAt w 0 w.heap.size v L := by
  rcases open_strs Tryd.underlying24 Tryd.underlying9 (by kernel_rfl) h with ⟨rfl, _⟩ | ⟨a, len, cap, m, S, rfl, _, hl, hm, hmm, _, hi⟩
  · exact ⟨_, [], rfl, strs_nil _ _ _⟩
  · have hlm : len ≤ m := by rw [hmm]; split <;> omega
    refine ⟨_, (List.range len).map fun i => (S i).data.toList, rfl, _, _, by simp, by simp [hl], hm, fun hn => ⟨a, rfl, Nat.zero_le _, ?_, fun j hj => ?_⟩⟩
    · have h0 : 0 < len := by simpa using hn
      have := World.block_lt_of_cell? w _ (hi 0 (by omega)).1
      rw [addr_block] at this
      exact this
    · have hj' : j < len := by simpa using hj
      rw [(hi j (by omega)).1]
      simp [strOf_back]
theorem open_qds {fuel : Nat} {cs : List Value} {x : DataW H × List MemPlace} (h : DataW.trod enc Tryd.prog w base spare held fuel 25 cs = some x) : ∃ v Q, cs = [v] ∧ QdsAt w 0 w.heap.size v Q ∧ ∀ q ∈ Q, q.Ok := by
  rcases open_slice Tryd.underlying25 h with ⟨rfl, _⟩ | ⟨a, len, cap, m, n, D, Pl, rfl, _, hl, hm, hmm, _, hi⟩
  · exact ⟨_, [], rfl, qds_nil _ _ _, by simp⟩
  · have hlm : len ≤ m := by rw [hmm]; split <;> omega
    have hone : ∀ i, i < len → ∃ q : Q3, q.Ok ∧ w.cell? (a.add (i * 3)) = some (.int .u8 (q.t : Int)) ∧
        w.cell? ⟨(a.add (i * 3)).block, (a.add (i * 3)).off + 1, none⟩ = some (.int .u32 (q.v : Int)) ∧ w.cell? ⟨(a.add (i * 3)).block, (a.add (i * 3)).off + 2, none⟩ = some (.int .u64 (q.p : Int)) := by
      intro i hil
      obtain ⟨cs', hc, ht'⟩ := hi i (by omega)
      rw [Tryd.qidCells] at hc
      obtain ⟨_, hcl, hat⟩ := World.cells?_some hc
      match cs', hcl with
      | [x0, x1, x2], _ =>
        obtain ⟨q, hq, rfl, rfl, rfl⟩ := open_q3 ht'
        have a0 := hat 0 (by omega)
        have a1 := hat 1 (by omega)
        have a2 := hat 2 (by omega)
        rw [add_plus _ 1 (by omega)] at a1
        rw [add_plus _ 2 (by omega)] at a2
        have ez : (a.add (i * 3)).add 0 = a.add (i * 3) := by simp [Addr.add]
        rw [ez] at a0
        exact ⟨q, hq, a0, a1, a2⟩
    haveI : Inhabited Q3 := ⟨Q3.zero⟩
    obtain ⟨f, hf⟩ := choose_lt hone
    refine ⟨_, (List.range len).map f, rfl, ⟨_, _, by simp, by simp [hl], hm, fun hn => ⟨a, rfl, Nat.zero_le _, ?_, fun j hj => ?_⟩⟩, ?_⟩
    · have h0 : 0 < len := by simpa using hn
      have := World.block_lt_of_cell? w _ (hf 0 h0).2.1
      rw [addr_block] at this
      exact this
    · have hj' : j < len := by simpa using hj
      simpa using (hf j hj').2
    · intro q hq
      obtain ⟨i, hi', rfl⟩ := List.mem_map.1 hq
      exact (hf i (List.mem_range.1 hi')).1
/-- What lies at a place. -/
def Lies (w : World) (cs : Array Value) (p : K × Nat) (f : F) : Prop := f.kind = p.1 ∧ f.Ok ∧ FAt w 0 w.heap.size cs p.2 f

set_option maxHeartbeats 2000000 in
theorem open_fields {fuel : Nat} {l : List Value} {x : DataW H × List MemPlace} (hlen : l.length = 36) (h : DataW.trod enc Tryd.prog w base spare held fuel 33 l = some x) : ∀ p ∈ places, ∃ f, Lies w l.toArray p f := by
  obtain ⟨ys, n', hn', hy, hle, hyl, hf⟩ := DataW.trod_struct Tryd.underlying33 h
  have hy22 : ys.length = 22 := hyl
  have eU8 : Tryd.prog.cellsOf 5 = 1 := by kernel_rfl
  have eU16 : Tryd.prog.cellsOf 22 = 1 := by kernel_rfl
  have eU32 : Tryd.prog.cellsOf 23 = 1 := by kernel_rfl
  have eU64 : Tryd.prog.cellsOf 26 = 1 := by kernel_rfl
  have eS : Tryd.prog.cellsOf 9 = 1 := by kernel_rfl
  have eSs : Tryd.prog.cellsOf 24 = 1 := by kernel_rfl
  have eQs : Tryd.prog.cellsOf 25 = 1 := by kernel_rfl
  have eB : Tryd.prog.cellsOf 29 = 1 := by kernel_rfl
  have eQ := Tryd.qidCells
  have eT := Tryd.statCells
  intro p hp
  simp only [places, List.mem_cons, List.not_mem_nil, or_false] at hp
  rcases hp with rfl | rfl | rfl | rfl | rfl | rfl | rfl | rfl | rfl | rfl | rfl | rfl | rfl | rfl | rfl | rfl | rfl | rfl | rfl | rfl | rfl | rfl
  · have f : DataW.trod enc Tryd.prog w base spare held n' 5 ((l.drop 0).take (Tryd.prog.cellsOf 5)) = ys[0]? := hf 0 _ rfl
    rw [eU8, List.getElem?_eq_getElem (by omega)] at f
    obtain ⟨z, e, _, hw⟩ := DataW.trod_int Tryd.underlying5 f
    have b := bounds_u8 hw
    have c := at_one e
    exact ⟨.num 1 z.toNat, rfl, ⟨by decide, by decide, by omega⟩, by show l.toArray[0]? = some (.int .u8 ((z.toNat : Nat) : Int)); rw [show ((z.toNat : Nat) : Int) = z by omega]; simpa using c⟩
  · have f : DataW.trod enc Tryd.prog w base spare held n' 22 ((l.drop 1).take (Tryd.prog.cellsOf 22)) = ys[1]? := hf 1 _ rfl
    rw [eU16, List.getElem?_eq_getElem (by omega)] at f
    obtain ⟨z, e, _, hw⟩ := DataW.trod_int Tryd.underlying22 f
    have b := bounds_u16 hw
    have c := at_one e
    exact ⟨.num 2 z.toNat, rfl, ⟨by decide, by decide, by omega⟩, by show l.toArray[1]? = some (.int .u16 ((z.toNat : Nat) : Int)); rw [show ((z.toNat : Nat) : Int) = z by omega]; simpa using c⟩
  · have f : DataW.trod enc Tryd.prog w base spare held n' 23 ((l.drop 2).take (Tryd.prog.cellsOf 23)) = ys[2]? := hf 2 _ rfl
    rw [eU32, List.getElem?_eq_getElem (by omega)] at f
    obtain ⟨z, e, _, hw⟩ := DataW.trod_int Tryd.underlying23 f
    have b := bounds_u32 hw
    have c := at_one e
    exact ⟨.num 4 z.toNat, rfl, ⟨by decide, by decide, by omega⟩, by show l.toArray[2]? = some (.int .u32 ((z.toNat : Nat) : Int)); rw [show ((z.toNat : Nat) : Int) = z by omega]; simpa using c⟩
  · have f : DataW.trod enc Tryd.prog w base spare held n' 9 ((l.drop 3).take (Tryd.prog.cellsOf 9)) = ys[3]? := hf 3 _ rfl
    rw [eS, List.getElem?_eq_getElem (by omega)] at f
    obtain ⟨z, e, _⟩ := DataW.trod_string Tryd.underlying9 f
    have c := at_one e
    exact ⟨.text z.data.toList, rfl, trivial, by show l.toArray[3]? = some (.string (strOf z.data.toList)); rw [strOf_back]; simpa using c⟩
  · have f : DataW.trod enc Tryd.prog w base spare held n' 23 ((l.drop 4).take (Tryd.prog.cellsOf 23)) = ys[4]? := hf 4 _ rfl
    rw [eU32, List.getElem?_eq_getElem (by omega)] at f
    obtain ⟨z, e, _, hw⟩ := DataW.trod_int Tryd.underlying23 f
    have b := bounds_u32 hw
    have c := at_one e
    exact ⟨.num 4 z.toNat, rfl, ⟨by decide, by decide, by omega⟩, by show l.toArray[4]? = some (.int .u32 ((z.toNat : Nat) : Int)); rw [show ((z.toNat : Nat) : Int) = z by omega]; simpa using c⟩
  · have f : DataW.trod enc Tryd.prog w base spare held n' 23 ((l.drop 5).take (Tryd.prog.cellsOf 23)) = ys[5]? := hf 5 _ rfl
    rw [eU32, List.getElem?_eq_getElem (by omega)] at f
    obtain ⟨z, e, _, hw⟩ := DataW.trod_int Tryd.underlying23 f
    have b := bounds_u32 hw
    have c := at_one e
    exact ⟨.num 4 z.toNat, rfl, ⟨by decide, by decide, by omega⟩, by show l.toArray[5]? = some (.int .u32 ((z.toNat : Nat) : Int)); rw [show ((z.toNat : Nat) : Int) = z by omega]; simpa using c⟩
  · have f : DataW.trod enc Tryd.prog w base spare held n' 23 ((l.drop 6).take (Tryd.prog.cellsOf 23)) = ys[6]? := hf 6 _ rfl
    rw [eU32, List.getElem?_eq_getElem (by omega)] at f
    obtain ⟨z, e, _, hw⟩ := DataW.trod_int Tryd.underlying23 f
    have b := bounds_u32 hw
    have c := at_one e
    exact ⟨.num 4 z.toNat, rfl, ⟨by decide, by decide, by omega⟩, by show l.toArray[6]? = some (.int .u32 ((z.toNat : Nat) : Int)); rw [show ((z.toNat : Nat) : Int) = z by omega]; simpa using c⟩
  · have f : DataW.trod enc Tryd.prog w base spare held n' 9 ((l.drop 7).take (Tryd.prog.cellsOf 9)) = ys[7]? := hf 7 _ rfl
    rw [eS, List.getElem?_eq_getElem (by omega)] at f
    obtain ⟨z, e, _⟩ := DataW.trod_string Tryd.underlying9 f
    have c := at_one e
    exact ⟨.text z.data.toList, rfl, trivial, by show l.toArray[7]? = some (.string (strOf z.data.toList)); rw [strOf_back]; simpa using c⟩
  · have f : DataW.trod enc Tryd.prog w base spare held n' 9 ((l.drop 8).take (Tryd.prog.cellsOf 9)) = ys[8]? := hf 8 _ rfl
    rw [eS, List.getElem?_eq_getElem (by omega)] at f
    obtain ⟨z, e, _⟩ := DataW.trod_string Tryd.underlying9 f
    have c := at_one e
    exact ⟨.text z.data.toList, rfl, trivial, by show l.toArray[8]? = some (.string (strOf z.data.toList)); rw [strOf_back]; simpa using c⟩
  · have f : DataW.trod enc Tryd.prog w base spare held n' 9 ((l.drop 9).take (Tryd.prog.cellsOf 9)) = ys[9]? := hf 9 _ rfl
    rw [eS, List.getElem?_eq_getElem (by omega)] at f
    obtain ⟨z, e, _⟩ := DataW.trod_string Tryd.underlying9 f
    have c := at_one e
    exact ⟨.text z.data.toList, rfl, trivial, by show l.toArray[9]? = some (.string (strOf z.data.toList)); rw [strOf_back]; simpa using c⟩
  · have f : DataW.trod enc Tryd.prog w base spare held n' 22 ((l.drop 10).take (Tryd.prog.cellsOf 22)) = ys[10]? := hf 10 _ rfl
    rw [eU16, List.getElem?_eq_getElem (by omega)] at f
    obtain ⟨z, e, _, hw⟩ := DataW.trod_int Tryd.underlying22 f
    have b := bounds_u16 hw
    have c := at_one e
    exact ⟨.num 2 z.toNat, rfl, ⟨by decide, by decide, by omega⟩, by show l.toArray[10]? = some (.int .u16 ((z.toNat : Nat) : Int)); rw [show ((z.toNat : Nat) : Int) = z by omega]; simpa using c⟩
  · have f : DataW.trod enc Tryd.prog w base spare held n' 24 ((l.drop 11).take (Tryd.prog.cellsOf 24)) = ys[11]? := hf 11 _ rfl
    rw [eSs, List.getElem?_eq_getElem (by omega)] at f
    obtain ⟨v, L, e, hs⟩ := open_texts f
    have c := at_one e
    exact ⟨.texts L, rfl, trivial, v, by simpa using c, hs⟩
  · have f : DataW.trod enc Tryd.prog w base spare held n' 25 ((l.drop 12).take (Tryd.prog.cellsOf 25)) = ys[12]? := hf 12 _ rfl
    rw [eQs, List.getElem?_eq_getElem (by omega)] at f
    obtain ⟨v, Q, e, hs, hq⟩ := open_qds f
    have c := at_one e
    exact ⟨.qids Q, rfl, hq, v, by simpa using c, hs⟩
  · have f : DataW.trod enc Tryd.prog w base spare held n' 28 ((l.drop 13).take (Tryd.prog.cellsOf 28)) = ys[13]? := hf 13 _ rfl
    rw [eQ, List.getElem?_eq_getElem (by omega)] at f
    obtain ⟨L, hL⟩ : ∃ L, L = (l.drop 13).take 3 := ⟨_, rfl⟩
    have hl3 : L.length = 3 := by rw [hL]; simp; omega
    rw [← hL] at f
    match L, hl3 with
    | [x0, x1, x2], _ =>
      obtain ⟨q, hq, rfl, rfl, rfl⟩ := open_q3 f
      have c0 := at_take hL.symm 0 (by omega)
      have c1 := at_take hL.symm 1 (by omega)
      have c2 := at_take hL.symm 2 (by omega)
      exact ⟨.qid q, rfl, hq, by simpa using c0, by simpa using c1, by simpa using c2⟩
  · have f : DataW.trod enc Tryd.prog w base spare held n' 23 ((l.drop 16).take (Tryd.prog.cellsOf 23)) = ys[14]? := hf 14 _ rfl
    rw [eU32, List.getElem?_eq_getElem (by omega)] at f
    obtain ⟨z, e, _, hw⟩ := DataW.trod_int Tryd.underlying23 f
    have b := bounds_u32 hw
    have c := at_one e
    exact ⟨.num 4 z.toNat, rfl, ⟨by decide, by decide, by omega⟩, by show l.toArray[16]? = some (.int .u32 ((z.toNat : Nat) : Int)); rw [show ((z.toNat : Nat) : Int) = z by omega]; simpa using c⟩
  · have f : DataW.trod enc Tryd.prog w base spare held n' 5 ((l.drop 17).take (Tryd.prog.cellsOf 5)) = ys[15]? := hf 15 _ rfl
    rw [eU8, List.getElem?_eq_getElem (by omega)] at f
    obtain ⟨z, e, _, hw⟩ := DataW.trod_int Tryd.underlying5 f
    have b := bounds_u8 hw
    have c := at_one e
    exact ⟨.num 1 z.toNat, rfl, ⟨by decide, by decide, by omega⟩, by show l.toArray[17]? = some (.int .u8 ((z.toNat : Nat) : Int)); rw [show ((z.toNat : Nat) : Int) = z by omega]; simpa using c⟩
  · have f : DataW.trod enc Tryd.prog w base spare held n' 23 ((l.drop 18).take (Tryd.prog.cellsOf 23)) = ys[16]? := hf 16 _ rfl
    rw [eU32, List.getElem?_eq_getElem (by omega)] at f
    obtain ⟨z, e, _, hw⟩ := DataW.trod_int Tryd.underlying23 f
    have b := bounds_u32 hw
    have c := at_one e
    exact ⟨.num 4 z.toNat, rfl, ⟨by decide, by decide, by omega⟩, by show l.toArray[18]? = some (.int .u32 ((z.toNat : Nat) : Int)); rw [show ((z.toNat : Nat) : Int) = z by omega]; simpa using c⟩
  · have f : DataW.trod enc Tryd.prog w base spare held n' 9 ((l.drop 19).take (Tryd.prog.cellsOf 9)) = ys[17]? := hf 17 _ rfl
    rw [eS, List.getElem?_eq_getElem (by omega)] at f
    obtain ⟨z, e, _⟩ := DataW.trod_string Tryd.underlying9 f
    have c := at_one e
    exact ⟨.text z.data.toList, rfl, trivial, by show l.toArray[19]? = some (.string (strOf z.data.toList)); rw [strOf_back]; simpa using c⟩
  · have f : DataW.trod enc Tryd.prog w base spare held n' 26 ((l.drop 20).take (Tryd.prog.cellsOf 26)) = ys[18]? := hf 18 _ rfl
    rw [eU64, List.getElem?_eq_getElem (by omega)] at f
    obtain ⟨z, e, _, hw⟩ := DataW.trod_int Tryd.underlying26 f
    have b := bounds_u64 hw
    have c := at_one e
    exact ⟨.num 8 z.toNat, rfl, ⟨by decide, by decide, by omega⟩, by show l.toArray[20]? = some (.int .u64 ((z.toNat : Nat) : Int)); rw [show ((z.toNat : Nat) : Int) = z by omega]; simpa using c⟩
  · have f : DataW.trod enc Tryd.prog w base spare held n' 23 ((l.drop 21).take (Tryd.prog.cellsOf 23)) = ys[19]? := hf 19 _ rfl
    rw [eU32, List.getElem?_eq_getElem (by omega)] at f
    obtain ⟨z, e, _, hw⟩ := DataW.trod_int Tryd.underlying23 f
    have b := bounds_u32 hw
    have c := at_one e
    exact ⟨.num 4 z.toNat, rfl, ⟨by decide, by decide, by omega⟩, by show l.toArray[21]? = some (.int .u32 ((z.toNat : Nat) : Int)); rw [show ((z.toNat : Nat) : Int) = z by omega]; simpa using c⟩
  · have f : DataW.trod enc Tryd.prog w base spare held n' 29 ((l.drop 22).take (Tryd.prog.cellsOf 29)) = ys[20]? := hf 20 _ rfl
    rw [eB, List.getElem?_eq_getElem (by omega)] at f
    obtain ⟨A, c, bs, e, e1, e2, e3⟩ := open_bytes Tryd.underlying29 Tryd.underlying5 (by kernel_rfl) f
    have c0 := at_one e
    exact ⟨.data bs, rfl, trivial, _, by simpa using c0, ⟨A, c, rfl, e1, e2, e3⟩⟩
  · have f : DataW.trod enc Tryd.prog w base spare held n' 31 ((l.drop 23).take (Tryd.prog.cellsOf 31)) = ys[21]? := hf 21 _ rfl
    rw [eT, List.getElem?_eq_getElem (by omega)] at f
    obtain ⟨L, hL⟩ : ∃ L, L = (l.drop 23).take 13 := ⟨_, rfl⟩
    have hl3 : L.length = 13 := by rw [hL]; simp; omega
    rw [← hL] at f
    match L, hl3 with
    | [x0, x1, x2, x3, x4, x5, x6, x7, x8, x9, x10, x11, x12], _ =>
      obtain ⟨s, hs, e⟩ := open_s11 f
      unfold S11.val at e
      injection e with e
      refine ⟨.stat s, rfl, hs, fun j hj => ?_⟩
      have c0 := at_take hL.symm j hj
      rw [← e]
      simpa using c0
theorem open_msg {r : Reach} {b0 : Nat} {v : Value} {d : DataW H} {p : List MemPlace} (hv : Value.okWide Tryd.prog w r b0 33 v) (h : DataW.Trod enc Tryd.prog w base spare held 33 v d p) :
    ∃ cs m, v = .agg cs ∧ MgAt w 0 w.heap.size cs m ∧ ∀ p ∈ places, (m p.2).Ok := by
  obtain ⟨cs, rfl, hsz⟩ := okWide_struct Tryd.underlying33 hv
  obtain ⟨l⟩ := cs
  obtain ⟨fuel, hf⟩ := h
  have hlen : l.length = 36 := hsz.trans Tryd.msgCells
  have ho := open_fields hlen hf
  haveI : Nonempty F := ⟨.text []⟩
  have key : ∀ p ∈ places, Lies w l.toArray p (Classical.epsilon fun f => ∀ q ∈ places, q.2 = p.2 → Lies w l.toArray q f) := by
    intro p hp
    obtain ⟨f, hf⟩ := ho p hp
    refine Classical.epsilon_spec (p := fun f => ∀ q ∈ places, q.2 = p.2 → Lies w l.toArray q f) ⟨f, fun q hq he => ?_⟩ p hp rfl
    rcases places_apart p hp q hq with h | h
    · rw [← h]
      exact hf
    · have := size_pos p.1
      have := size_pos q.1
      omega
  exact ⟨l.toArray, fun off => Classical.epsilon fun f => ∀ q ∈ places, q.2 = off → Lies w l.toArray q f, rfl, ⟨by simpa using hlen, fun p hp => (key p hp).1, fun p hp => (key p hp).2.2⟩, fun p hp => (key p hp).2.1⟩
end
end Go.Proofs.YtepiifbleoimkaaDoor
