/-
  Package msg: same: two fields of one kind.
  Two slices compared: of texts, of qids, of bytes.
  Package msg: same: the other kinds.
  Package msg: Same; Known, Ask, Error.
-/
import Derived.Test.YtepiifbleoimkaaGreatDoorPackMsgC
import Derived.Deep.QuietTactic
import Derived.BigQuiet
import Derived.StillTailTactics
namespace Go.Proofs.YtepiifbleoimkaaGreatDoor
open Go.RowKit
set_option maxRecDepth 100000

/-- What a comparison answers. -/
def Tells (w : World) (p : Prop) (e : Ending) (w' : World) : Prop := (∃ b : Bool, e = .returned (.bool b) ∧ (b = true ↔ p)) ∧ Below w.heap.size w w'
theorem Tells.of {w : World} {p q : Prop} {e : Ending} {w' : World} (h : Tells w p e w') (hpq : p ↔ q) : Tells w q e w' := by
  obtain ⟨⟨b, he, hb⟩, k⟩ := h
  exact ⟨⟨b, he, hb.trans hpq⟩, k⟩
theorem below_drewN (w : World) (n : Nat) : Below w.heap.size w (w.drewN n) := ⟨rfl, rfl, rfl, Nat.le_refl _, fun _ _ => rfl⟩
theorem Q3.eq_iff {q r : Q3} : q = r ↔ q.t = r.t ∧ q.v = r.v ∧ q.p = r.p := by
  cases q
  cases r
  simp
theorem S11.eq_iff {s r : S11} : s = r ↔ s.k = r.k ∧ s.d = r.d ∧ s.q = r.q ∧ s.m = r.m ∧ s.a = r.a ∧ s.c = r.c ∧ s.l = r.l ∧ s.n = r.n ∧ s.u = r.u ∧ s.g = r.g ∧ s.x = r.x := by
  cases s
  cases r
  simp
theorem strOf_iff {l m : List UInt8} : strOf l = strOf m ↔ l = m := ⟨strOf_inj, fun h => by rw [h]⟩
set_option maxHeartbeats 400000 in
theorem Tryz.eqQid (q r : Q3) (h : q ≠ r) : ∀ w, (binOp .eql 30 (.agg #[.int .u8 (q.t : Int), .int .u32 (q.v : Int), .int .u64 (q.p : Int)]) (.agg #[.int .u8 (r.t : Int), .int .u32 (r.v : Int), .int .u64 (r.p : Int)])).run Tryz.prog w = .ok (.bool false) w := by
  intro w
  go_simp
  intro h1 h2 h3
  exact h (Q3.eq_iff.2 ⟨by omega, by omega, by omega⟩)
set_option maxHeartbeats 400000 in
theorem Tryz.neQid (q r : Q3) (h : q ≠ r) : ∀ w, (binOp .neq 30 (.agg #[.int .u8 (q.t : Int), .int .u32 (q.v : Int), .int .u64 (q.p : Int)]) (.agg #[.int .u8 (r.t : Int), .int .u32 (r.v : Int), .int .u64 (r.p : Int)])).run Tryz.prog w = .ok (.bool true) w := by
  intro w
  go_simp
  intro h1 h2 h3
  exact h (Q3.eq_iff.2 ⟨by omega, by omega, by omega⟩)
set_option maxHeartbeats 400000 in
theorem Tryz.eqStat (s r : S11) (h : s ≠ r) : ∀ w, (binOp .eql 32 s.val r.val).run Tryz.prog w = .ok (.bool false) w := by
  intro w
  unfold S11.val S11.cells
  go_simp
  intro h1 h2 h3 h4 h5 h6 h7 h8 h9 h10 h11 h12 h13
  rw [strOf_list, strOf_list] at h10 h11 h12 h13
  exact h (S11.eq_iff.2 ⟨by omega, by omega, Q3.eq_iff.2 ⟨by omega, by omega, by omega⟩, by omega, by omega, by omega, by omega, h10, h11, h12, h13⟩)

theorem Tryz.at_u8 (p : Addr) : ∀ w, (Instr.typeAssert (.iface 100 (.pointer (some p))) 20 100 false).run Tryz.prog w = .ok (.pointer (some p)) w := by intro w; kernel_rfl
theorem Tryz.at_u16 (p : Addr) : ∀ w, (Instr.typeAssert (.iface 97 (.pointer (some p))) 20 97 false).run Tryz.prog w = .ok (.pointer (some p)) w := by intro w; kernel_rfl
theorem Tryz.at_u32 (p : Addr) : ∀ w, (Instr.typeAssert (.iface 94 (.pointer (some p))) 20 94 false).run Tryz.prog w = .ok (.pointer (some p)) w := by intro w; kernel_rfl
theorem Tryz.at_u64 (p : Addr) : ∀ w, (Instr.typeAssert (.iface 101 (.pointer (some p))) 20 101 false).run Tryz.prog w = .ok (.pointer (some p)) w := by intro w; kernel_rfl
theorem Tryz.at_text (p : Addr) : ∀ w, (Instr.typeAssert (.iface 95 (.pointer (some p))) 20 95 false).run Tryz.prog w = .ok (.pointer (some p)) w := by intro w; kernel_rfl
theorem Tryz.at_texts (p : Addr) : ∀ w, (Instr.typeAssert (.iface 98 (.pointer (some p))) 20 98 false).run Tryz.prog w = .ok (.pointer (some p)) w := by intro w; kernel_rfl
theorem Tryz.at_qid (p : Addr) : ∀ w, (Instr.typeAssert (.iface 96 (.pointer (some p))) 20 96 false).run Tryz.prog w = .ok (.pointer (some p)) w := by intro w; kernel_rfl
theorem Tryz.at_qids (p : Addr) : ∀ w, (Instr.typeAssert (.iface 99 (.pointer (some p))) 20 99 false).run Tryz.prog w = .ok (.pointer (some p)) w := by intro w; kernel_rfl
theorem Tryz.at_data (p : Addr) : ∀ w, (Instr.typeAssert (.iface 102 (.pointer (some p))) 20 102 false).run Tryz.prog w = .ok (.pointer (some p)) w := by intro w; kernel_rfl
theorem Tryz.at_stat (p : Addr) : ∀ w, (Instr.typeAssert (.iface 103 (.pointer (some p))) 20 103 false).run Tryz.prog w = .ok (.pointer (some p)) w := by intro w; kernel_rfl
set_option maxHeartbeats 1000000 in
theorem same_u8 (ma oa mb ob : Nat) (ca cb : Array Value) (x y : Nat) (w : World) (ha : Has w ma 34 ca) (hb : Has w mb 34 cb) (hca : ca[oa]? = some (.int .u8 (x : Int))) (hcb : cb[ob]? = some (.int .u8 (y : Int))) :
    Calls Tryz.prog 34 #[.iface 100 (.pointer (some ⟨ma, oa, none⟩)), .iface 100 (.pointer (some ⟨mb, ob, none⟩))] w (Tells w (x = y)) := by
  have c0 := (ha.cell oa).trans hca
  have c1 := (hb.cell ob).trans hcb
  have a0 := Tryz.as_u8_u8 ⟨ma, oa, none⟩
  have b0 := Tryz.at_u8 ⟨mb, ob, none⟩
  clear ha hb hca hcb
  go_enter Tryz.func34, Tryz.ntmps34
  go_wp2_with fail
  go_quiet (fail)
  go_wp2
  go_ret
  exact ⟨⟨_, rfl, by simp; omega⟩, below_drewN _ _⟩

set_option maxHeartbeats 1000000 in
theorem same_u16 (ma oa mb ob : Nat) (ca cb : Array Value) (x y : Nat) (w : World) (ha : Has w ma 34 ca) (hb : Has w mb 34 cb) (hca : ca[oa]? = some (.int .u16 (x : Int))) (hcb : cb[ob]? = some (.int .u16 (y : Int))) :
    Calls Tryz.prog 34 #[.iface 97 (.pointer (some ⟨ma, oa, none⟩)), .iface 97 (.pointer (some ⟨mb, ob, none⟩))] w (Tells w (x = y)) := by
  have c0 := (ha.cell oa).trans hca
  have c1 := (hb.cell ob).trans hcb
  have a0 := Tryz.as_u16_u8 ⟨ma, oa, none⟩
  have a1 := Tryz.as_u16_u16 ⟨ma, oa, none⟩
  have b0 := Tryz.at_u16 ⟨mb, ob, none⟩
  clear ha hb hca hcb
  go_enter Tryz.func34, Tryz.ntmps34
  go_wp2_with fail
  go_quiet (fail)
  go_wp2
  go_ret
  exact ⟨⟨_, rfl, by simp; omega⟩, below_drewN _ _⟩

set_option maxHeartbeats 1000000 in
theorem same_u32 (ma oa mb ob : Nat) (ca cb : Array Value) (x y : Nat) (w : World) (ha : Has w ma 34 ca) (hb : Has w mb 34 cb) (hca : ca[oa]? = some (.int .u32 (x : Int))) (hcb : cb[ob]? = some (.int .u32 (y : Int))) :
    Calls Tryz.prog 34 #[.iface 94 (.pointer (some ⟨ma, oa, none⟩)), .iface 94 (.pointer (some ⟨mb, ob, none⟩))] w (Tells w (x = y)) := by
  have c0 := (ha.cell oa).trans hca
  have c1 := (hb.cell ob).trans hcb
  have a0 := Tryz.as_u32_u8 ⟨ma, oa, none⟩
  have a1 := Tryz.as_u32_u16 ⟨ma, oa, none⟩
  have a2 := Tryz.as_u32_u32 ⟨ma, oa, none⟩
  have b0 := Tryz.at_u32 ⟨mb, ob, none⟩
  clear ha hb hca hcb
  go_enter Tryz.func34, Tryz.ntmps34
  go_wp2_with fail
  go_quiet (fail)
  go_wp2
  go_ret
  exact ⟨⟨_, rfl, by simp; omega⟩, below_drewN _ _⟩

set_option maxHeartbeats 1000000 in
theorem same_u64 (ma oa mb ob : Nat) (ca cb : Array Value) (x y : Nat) (w : World) (ha : Has w ma 34 ca) (hb : Has w mb 34 cb) (hca : ca[oa]? = some (.int .u64 (x : Int))) (hcb : cb[ob]? = some (.int .u64 (y : Int))) :
    Calls Tryz.prog 34 #[.iface 101 (.pointer (some ⟨ma, oa, none⟩)), .iface 101 (.pointer (some ⟨mb, ob, none⟩))] w (Tells w (x = y)) := by
  have c0 := (ha.cell oa).trans hca
  have c1 := (hb.cell ob).trans hcb
  have a0 := Tryz.as_u64_u8 ⟨ma, oa, none⟩
  have a1 := Tryz.as_u64_u16 ⟨ma, oa, none⟩
  have a2 := Tryz.as_u64_u32 ⟨ma, oa, none⟩
  have a3 := Tryz.as_u64_u64 ⟨ma, oa, none⟩
  have b0 := Tryz.at_u64 ⟨mb, ob, none⟩
  clear ha hb hca hcb
  go_enter Tryz.func34, Tryz.ntmps34
  go_wp2_with fail
  go_quiet (fail)
  go_wp2
  go_ret
  exact ⟨⟨_, rfl, by simp; omega⟩, below_drewN _ _⟩

set_option maxHeartbeats 1000000 in
theorem same_text (ma oa mb ob : Nat) (ca cb : Array Value) (x y : List UInt8) (w : World) (ha : Has w ma 34 ca) (hb : Has w mb 34 cb) (hca : ca[oa]? = some (.string (strOf x))) (hcb : cb[ob]? = some (.string (strOf y))) :
    Calls Tryz.prog 34 #[.iface 95 (.pointer (some ⟨ma, oa, none⟩)), .iface 95 (.pointer (some ⟨mb, ob, none⟩))] w (Tells w (x = y)) := by
  have c0 := (ha.cell oa).trans hca
  have c1 := (hb.cell ob).trans hcb
  have a0 := Tryz.as_text_u8 ⟨ma, oa, none⟩
  have a1 := Tryz.as_text_u16 ⟨ma, oa, none⟩
  have a2 := Tryz.as_text_u32 ⟨ma, oa, none⟩
  have a3 := Tryz.as_text_u64 ⟨ma, oa, none⟩
  have a4 := Tryz.as_text_text ⟨ma, oa, none⟩
  have b0 := Tryz.at_text ⟨mb, ob, none⟩
  clear ha hb hca hcb
  go_enter Tryz.func34, Tryz.ntmps34
  go_wp2_with fail
  go_quiet (fail)
  go_wp2
  go_ret
  exact ⟨⟨_, rfl, by simp [strOf_list]⟩, below_drewN _ _⟩

end Go.Proofs.YtepiifbleoimkaaGreatDoor
namespace Go.Proofs.YtepiifbleoimkaaGreatDoor
open Go.RowKit
set_option maxRecDepth 100000

theorem take_all {α : Type} {L M : List α} {j : Nat} (h : L.take j = M.take j) (hl : L.length = M.length) (hj : j = L.length) : L = M := by
  rw [hj, List.take_length] at h
  rw [h, hl, List.take_length]
theorem take_next {α : Type} {L M : List α} {j : Nat} (h : L.take j = M.take j) (h1 : j < L.length) (h2 : j < M.length) (he : L[j] = M[j]) : L.take (j + 1) = M.take (j + 1) := by
  rw [List.take_succ_eq_append_getElem h1, List.take_succ_eq_append_getElem h2, h, he]

set_option maxHeartbeats 1000000 in
theorem equals_any (lo hi lo' hi' : Nat) (v v' : Value) (L M : List (List UInt8)) (w : World) (h1 : StrsAt w lo hi v L) (h2 : StrsAt w lo' hi' v' M) (hh : hi ≤ w.heap.size) (hh' : hi' ≤ w.heap.size) (hL : L.length ≤ 1000) :
    Calls Tryz.prog 57 #[v, v'] w (Tells w (L = M)) := by
  obtain ⟨A, c, rfl, _, _, hA⟩ := h1
  obtain ⟨A', c', rfl, _, _, hA'⟩ := h2
  by_cases hl : L.length = M.length
  · have hlb : ((L.length : Int) != (M.length : Int)) = false := by simp [hl]
    have HA := Lib.hid hA
    have HA' := Lib.hid hA'
    have I0 : Hid (L.take 0 = M.take 0 ∧ Below w.heap.size w w) := ⟨by simp, Below.refl _ _⟩
    clear hA hA'
    go_enter Tryz.func57, Tryz.ntmps57
    go_wp2
    go_loopw [13] (fun i wr => ∃ j : Nat, j ≤ L.length ∧ i = .int .i64 j ∧ Hid (L.take j = M.take j ∧ Below w.heap.size w wr)) (fun i _ => L.length - (intOf i).toNat)
    case atStart => exact ⟨0, Nat.zero_le _, rfl, I0⟩
    case round =>
      obtain ⟨j, hj, rfl, hrel⟩ := hrel
      clear I0
      by_cases hlt : j < L.length
      · have hlt2 : j < M.length := by omega
        obtain ⟨ad, rfl, b1, b2, hc⟩ := HA.out (by omega)
        obtain ⟨ad', rfl, b1', b2', hc'⟩ := HA'.out (by omega)
        have hB := hrel.out.2
        have c0 := (hB.cell (p := ad.add j) (by rw [addr_block]; omega)).trans (hc j hlt)
        have c1 := (hB.cell (p := ad'.add j) (by rw [addr_block]; omega)).trans (hc' j hlt2)
        have i0 : (0 : Int) ≤ (j : Int) := by omega
        have i1 : (j : Int) < (L.length : Int) := by omega
        have i2 : (j : Int) < (M.length : Int) := by omega
        have R1 : Hid (L[j] = M[j] → ∀ w', Below w.heap.size w w' → L.take (j + 1) = M.take (j + 1) ∧ Below w.heap.size w w') := fun he w' k => ⟨take_next hrel.out.1 hlt hlt2 he, k⟩
        have R2 : Hid (L[j] ≠ M[j] → L ≠ M) := fun he h => he (by subst h; rfl)
        have HB := Lib.hid hB
        generalize L[j] = x at c0 R1 R2
        generalize M[j] = y at c1 R1 R2
        clear hrel hc hc' b1 b1' b2 b2' hB
        by_cases hxy : x = y
        · subst hxy
          have R3 := Lib.hid (R1.out rfl)
          clear R1 R2
          go_wp2_with fail
          go_quiet (fail)
          go_wp2
          go_roundw
          case rel => exact ⟨j + 1, by omega, by go_num, R3.out _ (HB.out.trans ((below_drewN _ _).mono HB.out.size))⟩
          case measure => simp [intOf]; omega
        · have d2 : ((strOf x).toList == (strOf y).toList) = false := by rw [strOf_list, strOf_list]; simpa using hxy
          have d4 : ((strOf x).toList != (strOf y).toList) = true := by rw [strOf_list, strOf_list]; simpa using hxy
          have R3 := Lib.hid (R2.out hxy)
          clear hxy R1 R2
          go_wp2_with fail
          go_quiet (fail)
          go_wp2
          all_goals first | (go_ret; exact ⟨⟨_, rfl, by simpa using R3.out⟩, HB.out.trans ((below_drewN _ _).mono HB.out.size)⟩) | skip
      · have hj4 : j = L.length := by omega
        have R : Hid (Tells w (L = M) (.returned (.bool true)) wr) := ⟨⟨true, rfl, by simpa using take_all hrel.out.1 hl hj4⟩, hrel.out.2⟩
        have i1 : ¬ (j : Int) < (L.length : Int) := by omega
        clear hrel hj4
        go_wp2
        go_ret
        exact R.out
  · have hlb : ((L.length : Int) != (M.length : Int)) = true := by simp; omega
    have hne : ¬ L = M := fun h => hl (by rw [h])
    have HN := Lib.hid hne
    clear hA hA' hl hne
    go_enter Tryz.func57, Tryz.ntmps57
    go_wp2
    go_ret
    exact ⟨⟨_, rfl, by simpa using HN.out⟩, Below.refl _ _⟩
set_option maxHeartbeats 1000000 in
theorem equalq_any (lo hi lo' hi' : Nat) (v v' : Value) (L M : List Q3) (w : World) (h1 : QdsAt w lo hi v L) (h2 : QdsAt w lo' hi' v' M) (hh : hi ≤ w.heap.size) (hh' : hi' ≤ w.heap.size) (hL : L.length ≤ 1000) :
    Calls Tryz.prog 58 #[v, v'] w (Tells w (L = M)) := by
  obtain ⟨A, c, rfl, _, _, hA⟩ := h1
  obtain ⟨A', c', rfl, _, _, hA'⟩ := h2
  by_cases hl : L.length = M.length
  · have hlb : ((L.length : Int) != (M.length : Int)) = false := by simp [hl]
    have HA := Lib.hid hA
    have HA' := Lib.hid hA'
    have I0 : Hid (L.take 0 = M.take 0 ∧ Below w.heap.size w w) := ⟨by simp, Below.refl _ _⟩
    clear hA hA'
    go_enter Tryz.func58, Tryz.ntmps58
    go_wp2
    go_loopw [13] (fun i wr => ∃ j : Nat, j ≤ L.length ∧ i = .int .i64 j ∧ Hid (L.take j = M.take j ∧ Below w.heap.size w wr)) (fun i _ => L.length - (intOf i).toNat)
    case atStart => exact ⟨0, Nat.zero_le _, rfl, I0⟩
    case round =>
      obtain ⟨j, hj, rfl, hrel⟩ := hrel
      clear I0
      by_cases hlt : j < L.length
      · have hlt2 : j < M.length := by omega
        obtain ⟨ad, rfl, b1, b2, hc⟩ := HA.out (by omega)
        obtain ⟨ad', rfl, b1', b2', hc'⟩ := HA'.out (by omega)
        have hB := hrel.out.2
        obtain ⟨x0, x1, x2⟩ := hc j hlt
        obtain ⟨y0, y1, y2⟩ := hc' j hlt2
        have hb3 : (ad.add (j * 3)).block < w.heap.size := by rw [addr_block]; omega
        have hb3' : (ad'.add (j * 3)).block < w.heap.size := by rw [addr_block]; omega
        replace x0 := (hB.cell hb3).trans x0
        replace x1 := (hB.cell (p := ⟨(ad.add (j * 3)).block, (ad.add (j * 3)).off + 1, none⟩) hb3).trans x1
        replace x2 := (hB.cell (p := ⟨(ad.add (j * 3)).block, (ad.add (j * 3)).off + 2, none⟩) hb3).trans x2
        replace y0 := (hB.cell hb3').trans y0
        replace y1 := (hB.cell (p := ⟨(ad'.add (j * 3)).block, (ad'.add (j * 3)).off + 1, none⟩) hb3').trans y1
        replace y2 := (hB.cell (p := ⟨(ad'.add (j * 3)).block, (ad'.add (j * 3)).off + 2, none⟩) hb3').trans y2
        have i0 : (0 : Int) ≤ (j : Int) := by omega
        have i1 : (j : Int) < (L.length : Int) := by omega
        have i2 : (j : Int) < (M.length : Int) := by omega
        have R1 : Hid (L[j] = M[j] → ∀ w', Below w.heap.size w w' → L.take (j + 1) = M.take (j + 1) ∧ Below w.heap.size w w') := fun he w' k => ⟨take_next hrel.out.1 hlt hlt2 he, k⟩
        have R2 : Hid (L[j] ≠ M[j] → L ≠ M) := fun he h => he (by subst h; rfl)
        have HB := Lib.hid hB
        generalize L[j] = x at x0 x1 x2 R1 R2
        generalize M[j] = y at y0 y1 y2 R1 R2
        clear hrel hc hc' b1 b1' b2 b2' hB hb3 hb3'
        by_cases hxy : x = y
        · subst hxy
          have R3 := Lib.hid (R1.out rfl)
          clear R1 R2
          go_wp2_with fail
          go_quiet (fail)
          go_wp2
          go_roundw
          case rel => exact ⟨j + 1, by omega, by go_num, R3.out _ (HB.out.trans ((below_drewN _ _).mono HB.out.size))⟩
          case measure => simp [intOf]; omega
        · have d2 := Tryz.neQid x y hxy
          have R3 := Lib.hid (R2.out hxy)
          clear hxy R1 R2
          go_wp2_with fail
          go_quiet (fail)
          go_wp2
          all_goals first | (go_ret; exact ⟨⟨_, rfl, by simpa using R3.out⟩, HB.out.trans ((below_drewN _ _).mono HB.out.size)⟩) | skip
      · have hj4 : j = L.length := by omega
        have R : Hid (Tells w (L = M) (.returned (.bool true)) wr) := ⟨⟨true, rfl, by simpa using take_all hrel.out.1 hl hj4⟩, hrel.out.2⟩
        have i1 : ¬ (j : Int) < (L.length : Int) := by omega
        clear hrel hj4
        go_wp2
        go_ret
        exact R.out
  · have hlb : ((L.length : Int) != (M.length : Int)) = true := by simp; omega
    have hne : ¬ L = M := fun h => hl (by rw [h])
    have HN := Lib.hid hne
    clear hA hA' hl hne
    go_enter Tryz.func58, Tryz.ntmps58
    go_wp2
    go_ret
    exact ⟨⟨_, rfl, by simpa using HN.out⟩, Below.refl _ _⟩

set_option maxHeartbeats 400000 in
theorem equalb_any (lo hi lo' hi' : Nat) (v v' : Value) (b d : List UInt8) (w : World) (h1 : SlIs w lo hi v b) (h2 : SlIs w lo' hi' v' d) : Calls Tryz.prog 59 #[v, v'] w (Tells w (b = d)) := by
  have r1 := run_str v b lo hi w h1
  have r2 := run_str v' d lo' hi' w h2
  clear h1 h2
  go_enter Tryz.func59, Tryz.ntmps59
  go_wp2
  go_ret
  exact ⟨⟨_, rfl, by simp [strOf_list]⟩, Below.refl _ _⟩
end Go.Proofs.YtepiifbleoimkaaGreatDoor
namespace Go.Proofs.YtepiifbleoimkaaGreatDoor
open Go.RowKit
set_option maxRecDepth 100000

set_option maxHeartbeats 1000000 in
theorem same_texts (ma oa mb ob : Nat) (ca cb : Array Value) (lo hi lo' hi' : Nat) (L M : List (List UInt8)) (w : World) (ha : Has w ma 34 ca) (hb : Has w mb 34 cb) (hca : FAt w lo hi ca oa (.texts L)) (hcb : FAt w lo' hi' cb ob (.texts M)) (hh : hi ≤ w.heap.size) (hh' : hi' ≤ w.heap.size) (hL : L.length ≤ 1000) :
    Calls Tryz.prog 34 #[.iface 98 (.pointer (some ⟨ma, oa, none⟩)), .iface 98 (.pointer (some ⟨mb, ob, none⟩))] w (Tells w (L = M)) := by
  obtain ⟨v, hca, hv⟩ := hca
  obtain ⟨v', hcb, hv'⟩ := hcb
  have c0 := (ha.cell oa).trans hca
  have c1 := (hb.cell ob).trans hcb
  have C := equals_any lo hi lo' hi' v v' L M w.drew (hv.keep (fun _ _ _ => rfl)) (hv'.keep (fun _ _ _ => rfl)) hh hh' hL
  obtain ⟨A, c, rfl, _⟩ := hv
  obtain ⟨A', c', rfl, _⟩ := hv'
  have C' := Lib.hid C
  have a0 := Tryz.as_texts_u8 ⟨ma, oa, none⟩
  have a1 := Tryz.as_texts_u16 ⟨ma, oa, none⟩
  have a2 := Tryz.as_texts_u32 ⟨ma, oa, none⟩
  have a3 := Tryz.as_texts_u64 ⟨ma, oa, none⟩
  have a4 := Tryz.as_texts_text ⟨ma, oa, none⟩
  have a5 := Tryz.as_texts_texts ⟨ma, oa, none⟩
  have b0 := Tryz.at_texts ⟨mb, ob, none⟩
  clear ha hb hca hcb C
  go_enter Tryz.func34, Tryz.ntmps34
  go_wp2_with fail
  go_still_tail 7, (by kernel_rfl)
  go_wp2_with fail
  refine C'.out.mono ?_
  rintro e w1 ⟨⟨b, rfl, hb⟩, k⟩
  have R : Hid (Tells w (L = M) (.returned (.bool b)) w1) := ⟨⟨b, rfl, hb⟩, (below_drewn w).trans k⟩
  clear C' hb k c0 c1
  go_wp2
  go_ret
  exact R.out

set_option maxHeartbeats 1000000 in
theorem same_qids (ma oa mb ob : Nat) (ca cb : Array Value) (lo hi lo' hi' : Nat) (L M : List Q3) (w : World) (ha : Has w ma 34 ca) (hb : Has w mb 34 cb) (hca : FAt w lo hi ca oa (.qids L)) (hcb : FAt w lo' hi' cb ob (.qids M)) (hh : hi ≤ w.heap.size) (hh' : hi' ≤ w.heap.size) (hL : L.length ≤ 1000) :
    Calls Tryz.prog 34 #[.iface 99 (.pointer (some ⟨ma, oa, none⟩)), .iface 99 (.pointer (some ⟨mb, ob, none⟩))] w (Tells w (L = M)) := by
  obtain ⟨v, hca, hv⟩ := hca
  obtain ⟨v', hcb, hv'⟩ := hcb
  have c0 := (ha.cell oa).trans hca
  have c1 := (hb.cell ob).trans hcb
  have C := equalq_any lo hi lo' hi' v v' L M w.drew (hv.keep (fun _ _ _ => rfl)) (hv'.keep (fun _ _ _ => rfl)) hh hh' hL
  obtain ⟨A, c, rfl, _⟩ := hv
  obtain ⟨A', c', rfl, _⟩ := hv'
  have C' := Lib.hid C
  have a0 := Tryz.as_qids_u8 ⟨ma, oa, none⟩
  have a1 := Tryz.as_qids_u16 ⟨ma, oa, none⟩
  have a2 := Tryz.as_qids_u32 ⟨ma, oa, none⟩
  have a3 := Tryz.as_qids_u64 ⟨ma, oa, none⟩
  have a4 := Tryz.as_qids_text ⟨ma, oa, none⟩
  have a5 := Tryz.as_qids_texts ⟨ma, oa, none⟩
  have a6 := Tryz.as_qids_qid ⟨ma, oa, none⟩
  have a7 := Tryz.as_qids_qids ⟨ma, oa, none⟩
  have b0 := Tryz.at_qids ⟨mb, ob, none⟩
  clear ha hb hca hcb C
  go_enter Tryz.func34, Tryz.ntmps34
  go_wp2_with fail
  go_still_tail 7, (by kernel_rfl)
  go_wp2_with fail
  refine C'.out.mono ?_
  rintro e w1 ⟨⟨b, rfl, hb⟩, k⟩
  have R : Hid (Tells w (L = M) (.returned (.bool b)) w1) := ⟨⟨b, rfl, hb⟩, (below_drewn w).trans k⟩
  clear C' hb k c0 c1
  go_wp2
  go_ret
  exact R.out

set_option maxHeartbeats 1000000 in
theorem same_data (ma oa mb ob : Nat) (ca cb : Array Value) (lo hi lo' hi' : Nat) (L M : List UInt8) (w : World) (ha : Has w ma 34 ca) (hb : Has w mb 34 cb) (hca : FAt w lo hi ca oa (.data L)) (hcb : FAt w lo' hi' cb ob (.data M)) :
    Calls Tryz.prog 34 #[.iface 102 (.pointer (some ⟨ma, oa, none⟩)), .iface 102 (.pointer (some ⟨mb, ob, none⟩))] w (Tells w (L = M)) := by
  obtain ⟨v, hca, hv⟩ := hca
  obtain ⟨v', hcb, hv'⟩ := hcb
  have c0 := (ha.cell oa).trans hca
  have c1 := (hb.cell ob).trans hcb
  have C := equalb_any lo hi lo' hi' v v' L M w.drew (hv.keep (fun _ _ _ => rfl)) (hv'.keep (fun _ _ _ => rfl))
  obtain ⟨A, c, rfl, _⟩ := hv
  obtain ⟨A', c', rfl, _⟩ := hv'
  have C' := Lib.hid C
  have a0 := Tryz.as_data_u8 ⟨ma, oa, none⟩
  have a1 := Tryz.as_data_u16 ⟨ma, oa, none⟩
  have a2 := Tryz.as_data_u32 ⟨ma, oa, none⟩
  have a3 := Tryz.as_data_u64 ⟨ma, oa, none⟩
  have a4 := Tryz.as_data_text ⟨ma, oa, none⟩
  have a5 := Tryz.as_data_texts ⟨ma, oa, none⟩
  have a6 := Tryz.as_data_qid ⟨ma, oa, none⟩
  have a7 := Tryz.as_data_qids ⟨ma, oa, none⟩
  have a8 := Tryz.as_data_data ⟨ma, oa, none⟩
  have b0 := Tryz.at_data ⟨mb, ob, none⟩
  clear ha hb hca hcb C
  go_enter Tryz.func34, Tryz.ntmps34
  go_wp2_with fail
  go_still_tail 7, (by kernel_rfl)
  go_wp2_with fail
  refine C'.out.mono ?_
  rintro e w1 ⟨⟨b, rfl, hb⟩, k⟩
  have R : Hid (Tells w (L = M) (.returned (.bool b)) w1) := ⟨⟨b, rfl, hb⟩, (below_drewn w).trans k⟩
  clear C' hb k c0 c1
  go_wp2
  go_ret
  exact R.out

set_option maxHeartbeats 1000000 in
theorem same_qid (ma oa mb ob : Nat) (ca cb : Array Value) (q r : Q3) (w : World) (ha : Has w ma 34 ca) (hb : Has w mb 34 cb) (hca : FAt w 0 0 ca oa (.qid q)) (hcb : FAt w 0 0 cb ob (.qid r)) :
    Calls Tryz.prog 34 #[.iface 96 (.pointer (some ⟨ma, oa, none⟩)), .iface 96 (.pointer (some ⟨mb, ob, none⟩))] w (Tells w (q = r)) := by
  obtain ⟨x0, x1, x2⟩ := hca
  obtain ⟨y0, y1, y2⟩ := hcb
  have c0 := (ha.cell oa).trans x0
  have c1 := (ha.cell (oa + 1)).trans x1
  have c2 := (ha.cell (oa + 2)).trans x2
  have d0 := (hb.cell ob).trans y0
  have d1 := (hb.cell (ob + 1)).trans y1
  have d2 := (hb.cell (ob + 2)).trans y2
  have a0 := Tryz.as_qid_u8 ⟨ma, oa, none⟩
  have a1 := Tryz.as_qid_u16 ⟨ma, oa, none⟩
  have a2 := Tryz.as_qid_u32 ⟨ma, oa, none⟩
  have a3 := Tryz.as_qid_u64 ⟨ma, oa, none⟩
  have a4 := Tryz.as_qid_text ⟨ma, oa, none⟩
  have a5 := Tryz.as_qid_texts ⟨ma, oa, none⟩
  have a6 := Tryz.as_qid_qid ⟨ma, oa, none⟩
  have b0 := Tryz.at_qid ⟨mb, ob, none⟩
  clear ha hb x0 x1 x2 y0 y1 y2
  by_cases hqr : q = r
  · subst hqr
    go_enter Tryz.func34, Tryz.ntmps34
    go_wp2_with fail
    go_quiet (fail)
    go_wp2
    go_ret
    exact ⟨⟨_, rfl, by simp⟩, below_drewN _ _⟩
  · have d3 := Tryz.eqQid q r hqr
    have HN := Lib.hid hqr
    clear hqr
    go_enter Tryz.func34, Tryz.ntmps34
    go_wp2_with fail
    go_quiet (fail)
    go_wp2
    go_ret
    exact ⟨⟨_, rfl, by simpa using HN.out⟩, below_drewN _ _⟩

set_option maxHeartbeats 2000000 in
theorem same_stat (ma oa mb ob : Nat) (ca cb : Array Value) (s r : S11) (w : World) (ha : Has w ma 34 ca) (hb : Has w mb 34 cb) (hca : ∀ j, j < 13 → ca[oa + j]? = s.cells[j]?) (hcb : ∀ j, j < 13 → cb[ob + j]? = r.cells[j]?) :
    Calls Tryz.prog 34 #[.iface 103 (.pointer (some ⟨ma, oa, none⟩)), .iface 103 (.pointer (some ⟨mb, ob, none⟩))] w (Tells w (s = r)) := by
  have c0 : w.cell? ⟨ma, oa, none⟩ = some (.int .u16 (s.k : Int)) := (ha.cell oa).trans (hca 0 (by omega))
  have c1 : w.cell? ⟨ma, oa + 1, none⟩ = some (.int .u32 (s.d : Int)) := (ha.cell (oa + 1)).trans (hca 1 (by omega))
  have c2 : w.cell? ⟨ma, oa + 2, none⟩ = some (.int .u8 (s.q.t : Int)) := (ha.cell (oa + 2)).trans (hca 2 (by omega))
  have c3 : w.cell? ⟨ma, oa + 3, none⟩ = some (.int .u32 (s.q.v : Int)) := (ha.cell (oa + 3)).trans (hca 3 (by omega))
  have c4 : w.cell? ⟨ma, oa + 4, none⟩ = some (.int .u64 (s.q.p : Int)) := (ha.cell (oa + 4)).trans (hca 4 (by omega))
  have c5 : w.cell? ⟨ma, oa + 5, none⟩ = some (.int .u32 (s.m : Int)) := (ha.cell (oa + 5)).trans (hca 5 (by omega))
  have c6 : w.cell? ⟨ma, oa + 6, none⟩ = some (.int .u32 (s.a : Int)) := (ha.cell (oa + 6)).trans (hca 6 (by omega))
  have c7 : w.cell? ⟨ma, oa + 7, none⟩ = some (.int .u32 (s.c : Int)) := (ha.cell (oa + 7)).trans (hca 7 (by omega))
  have c8 : w.cell? ⟨ma, oa + 8, none⟩ = some (.int .u64 (s.l : Int)) := (ha.cell (oa + 8)).trans (hca 8 (by omega))
  have c9 : w.cell? ⟨ma, oa + 9, none⟩ = some (.string (strOf s.n)) := (ha.cell (oa + 9)).trans (hca 9 (by omega))
  have c10 : w.cell? ⟨ma, oa + 10, none⟩ = some (.string (strOf s.u)) := (ha.cell (oa + 10)).trans (hca 10 (by omega))
  have c11 : w.cell? ⟨ma, oa + 11, none⟩ = some (.string (strOf s.g)) := (ha.cell (oa + 11)).trans (hca 11 (by omega))
  have c12 : w.cell? ⟨ma, oa + 12, none⟩ = some (.string (strOf s.x)) := (ha.cell (oa + 12)).trans (hca 12 (by omega))
  have d0 : w.cell? ⟨mb, ob, none⟩ = some (.int .u16 (r.k : Int)) := (hb.cell ob).trans (hcb 0 (by omega))
  have d1 : w.cell? ⟨mb, ob + 1, none⟩ = some (.int .u32 (r.d : Int)) := (hb.cell (ob + 1)).trans (hcb 1 (by omega))
  have d2 : w.cell? ⟨mb, ob + 2, none⟩ = some (.int .u8 (r.q.t : Int)) := (hb.cell (ob + 2)).trans (hcb 2 (by omega))
  have d3 : w.cell? ⟨mb, ob + 3, none⟩ = some (.int .u32 (r.q.v : Int)) := (hb.cell (ob + 3)).trans (hcb 3 (by omega))
  have d4 : w.cell? ⟨mb, ob + 4, none⟩ = some (.int .u64 (r.q.p : Int)) := (hb.cell (ob + 4)).trans (hcb 4 (by omega))
  have d5 : w.cell? ⟨mb, ob + 5, none⟩ = some (.int .u32 (r.m : Int)) := (hb.cell (ob + 5)).trans (hcb 5 (by omega))
  have d6 : w.cell? ⟨mb, ob + 6, none⟩ = some (.int .u32 (r.a : Int)) := (hb.cell (ob + 6)).trans (hcb 6 (by omega))
  have d7 : w.cell? ⟨mb, ob + 7, none⟩ = some (.int .u32 (r.c : Int)) := (hb.cell (ob + 7)).trans (hcb 7 (by omega))
  have d8 : w.cell? ⟨mb, ob + 8, none⟩ = some (.int .u64 (r.l : Int)) := (hb.cell (ob + 8)).trans (hcb 8 (by omega))
  have d9 : w.cell? ⟨mb, ob + 9, none⟩ = some (.string (strOf r.n)) := (hb.cell (ob + 9)).trans (hcb 9 (by omega))
  have d10 : w.cell? ⟨mb, ob + 10, none⟩ = some (.string (strOf r.u)) := (hb.cell (ob + 10)).trans (hcb 10 (by omega))
  have d11 : w.cell? ⟨mb, ob + 11, none⟩ = some (.string (strOf r.g)) := (hb.cell (ob + 11)).trans (hcb 11 (by omega))
  have d12 : w.cell? ⟨mb, ob + 12, none⟩ = some (.string (strOf r.x)) := (hb.cell (ob + 12)).trans (hcb 12 (by omega))
  have a0 := Tryz.as_stat_u8 ⟨ma, oa, none⟩
  have a1 := Tryz.as_stat_u16 ⟨ma, oa, none⟩
  have a2 := Tryz.as_stat_u32 ⟨ma, oa, none⟩
  have a3 := Tryz.as_stat_u64 ⟨ma, oa, none⟩
  have a4 := Tryz.as_stat_text ⟨ma, oa, none⟩
  have a5 := Tryz.as_stat_texts ⟨ma, oa, none⟩
  have a6 := Tryz.as_stat_qid ⟨ma, oa, none⟩
  have a7 := Tryz.as_stat_qids ⟨ma, oa, none⟩
  have a8 := Tryz.as_stat_data ⟨ma, oa, none⟩
  have a9 := Tryz.as_stat_stat ⟨ma, oa, none⟩
  have b0 := Tryz.at_stat ⟨mb, ob, none⟩
  clear ha hb hca hcb
  by_cases hsr : s = r
  · subst hsr
    go_enter Tryz.func34, Tryz.ntmps34
    go_wp2_with fail
    go_quiet (fail)
    go_wp2
    go_ret
    exact ⟨⟨_, rfl, by simp⟩, below_drewN _ _⟩
  · have e3 := Tryz.eqStat s r hsr
    unfold S11.val S11.cells at e3
    have HN := Lib.hid hsr
    clear hsr
    go_enter Tryz.func34, Tryz.ntmps34
    go_wp2_with fail
    go_quiet (fail)
    go_wp2
    go_ret
    exact ⟨⟨_, rfl, by simpa using HN.out⟩, below_drewN _ _⟩

theorem FAt.nowhere {w : World} {lo hi : Nat} {cs : Array Value} {off : Nat} {q : Q3} (h : FAt w lo hi cs off (.qid q)) : FAt w 0 0 cs off (.qid q) := h
theorem samef_any (ma oa mb ob : Nat) (ca cb : Array Value) (lo hi lo' hi' : Nat) (f f' : F) (w : World) (ha : Has w ma 34 ca) (hb : Has w mb 34 cb) (hca : FAt w lo hi ca oa f) (hcb : FAt w lo' hi' cb ob f') (hk : f.kind.std) (hkk : f'.kind = f.kind)
    (hh : hi ≤ w.heap.size) (hh' : hi' ≤ w.heap.size) (hfew : f.Few) :
    Calls Tryz.prog 34 #[.iface f.kind.ptr (.pointer (some ⟨ma, oa, none⟩)), .iface f.kind.ptr (.pointer (some ⟨mb, ob, none⟩))] w (Tells w (f = f')) := by
  cases f with
  | num n x =>
    cases f' with
    | num n' y =>
      have hn : n' = n := by simpa [F.kind] using hkk
      subst hn
      have hxy : x = y ↔ F.num n' x = F.num n' y := by simp
      rcases std_num hk with rfl | rfl | rfl | rfl
      · exact (same_u8 ma oa mb ob ca cb x y w ha hb hca hcb).mono fun e w' st => st.of hxy
      · exact (same_u16 ma oa mb ob ca cb x y w ha hb hca hcb).mono fun e w' st => st.of hxy
      · exact (same_u32 ma oa mb ob ca cb x y w ha hb hca hcb).mono fun e w' st => st.of hxy
      · exact (same_u64 ma oa mb ob ca cb x y w ha hb hca hcb).mono fun e w' st => st.of hxy
    | _ => cases hkk
  | text l =>
    cases f' with
    | text m => exact (same_text ma oa mb ob ca cb l m w ha hb hca hcb).mono fun e w' st => st.of (by simp)
    | _ => cases hkk
  | texts L =>
    cases f' with
    | texts M => exact (same_texts ma oa mb ob ca cb lo hi lo' hi' L M w ha hb hca hcb hh hh' hfew.1).mono fun e w' st => st.of (by simp)
    | _ => cases hkk
  | qid q =>
    cases f' with
    | qid r => exact (same_qid ma oa mb ob ca cb q r w ha hb hca.nowhere hcb.nowhere).mono fun e w' st => st.of (by simp)
    | _ => cases hkk
  | qids L =>
    cases f' with
    | qids M => exact (same_qids ma oa mb ob ca cb lo hi lo' hi' L M w ha hb hca hcb hh hh' hfew).mono fun e w' st => st.of (by simp)
    | _ => cases hkk
  | data L =>
    cases f' with
    | data M => exact (same_data ma oa mb ob ca cb lo hi lo' hi' L M w ha hb hca hcb).mono fun e w' st => st.of (by simp)
    | _ => cases hkk
  | stat s =>
    cases f' with
    | stat r => exact (same_stat ma oa mb ob ca cb s r w ha hb hca hcb).mono fun e w' st => st.of (by simp)
    | _ => cases hkk
end Go.Proofs.YtepiifbleoimkaaGreatDoor
namespace Go.Proofs.YtepiifbleoimkaaGreatDoor
open Go.RowKit
set_option maxRecDepth 100000

/-- Two messages say the same. -/
def sameM (t tag t' tag' : Nat) (m m' : Nat → F) : Prop := t = t' ∧ tag = tag' ∧ ∀ l, namedOf t = some l → fieldsOf m l = fieldsOf m' l
theorem fieldsOf_next {m m' : Nat → F} {l : List (K × Nat)} {j : Nat} (h : fieldsOf m (l.take j) = fieldsOf m' (l.take j)) (hj : j < l.length) (he : m l[j].2 = m' l[j].2) : fieldsOf m (l.take (j + 1)) = fieldsOf m' (l.take (j + 1)) := by
  unfold fieldsOf at h ⊢
  rw [List.take_succ_eq_append_getElem hj, List.map_append, List.map_append, h]
  simp [he]
theorem fieldsOf_get {m m' : Nat → F} {l : List (K × Nat)} {j : Nat} (h : fieldsOf m l = fieldsOf m' l) (hj : j < l.length) : m l[j].2 = m' l[j].2 := by
  have := congrArg (fun x => x[j]?) h
  simpa [fieldsOf, hj] using this

set_option maxHeartbeats 2000000 in
theorem same5_any (lo hi lo' hi' t tag t' tag' : Nat) (cs cs' : Array Value) (m m' : Nat → F) (w : World) (h1 : MgAt w lo hi cs m) (h2 : MgAt w lo' hi' cs' m') (hh : hi ≤ w.heap.size) (hh' : hi' ≤ w.heap.size)
    (ht : m 0 = .num 1 t) (htag : m 1 = .num 2 tag) (ht' : m' 0 = .num 1 t') (htag' : m' 1 = .num 2 tag') (hfew : ∀ p ∈ places, (m p.2).Few) :
    Calls Tryz.prog 11 #[.agg cs, .agg cs'] w (Tells w (sameM t tag t' tag' m m')) := by
  obtain ⟨W, hW⟩ : ∃ W, W = (w.alloc (.cells cs 34)).alloc (.cells cs' 34) := ⟨_, rfl⟩
  have k0 : Only (fun _ => False) w W := by rw [hW]; exact ((Only.refl _ w).alloc _).alloc _
  have hA : Has W w.heap.size 34 cs := by rw [hW]; exact (Has.new w _ _).alloc _
  have hB : Has W (w.heap.size + 1) 34 cs' := by
    rw [hW]
    have := Has.new (w.alloc (.cells cs 34)) 34 cs'
    simpa using this
  have e0 : cs[0]? = some (.int .u8 (t : Int)) := by have := h1.lies (.num 1, 0) (by decide); rw [ht] at this; exact this
  have e1 : cs[1]? = some (.int .u16 (tag : Int)) := by have := h1.lies (.num 2, 1) (by decide); rw [htag] at this; exact this
  have f0 : cs'[0]? = some (.int .u8 (t' : Int)) := by have := h2.lies (.num 1, 0) (by decide); rw [ht'] at this; exact this
  have f1 : cs'[1]? = some (.int .u16 (tag' : Int)) := by have := h2.lies (.num 2, 1) (by decide); rw [htag'] at this; exact this
  have c0 := (hA.cell 0).trans e0
  have c1 := (hA.cell 1).trans e1
  have d0 := (hB.cell 0).trans f0
  have d1 := (hB.cell 1).trans f1
  have KW := Lib.hid k0
  have g1 := h1.keep (k0.keeps hh (fun _ _ _ h => h))
  have g2 := h2.keep (k0.keeps hh' (fun _ _ _ h => h))
  have hsW := k0.size
  by_cases htt : t = t'
  · by_cases hgg : tag = tag'
    · subst htt hgg
      have dt : ((t : Int) != (t : Int)) = false := by simp
      have dg : ((tag : Int) != (tag : Int)) = false := by simp
      have C := Lib.hid (named_any w.heap.size t cs W hA e0)
      have HA := Lib.hid hA
      have HB := Lib.hid hB
      have HG1 := Lib.hid g1
      have HG2 := Lib.hid g2
      have HF := Lib.hid hfew
      have HF0 := Lib.hid f0
      rw [hW] at c0 c1 d0 d1
      have HW := Lib.hid hW.symm
      clear h1 h2 ht htag ht' htag' hfew k0 hA hB e0 e1 f0 f1 g1 g2 hW
      go_enter Tryz.func11, Tryz.ntmps11
      go_wp2_with fail
      rw [HW.out]
      refine C.out.mono ?_
      rintro e w1 ⟨x, rfl, hx, b1⟩
      clear c0 c1 d0 d1 C HW
      have k1 := Below.onlyNew b1
      have hs1 := b1.size
      have C2 := Lib.hid (named_any (w.heap.size + 1) t cs' w1 (HB.out.only k1 (fun h => h)) HF0.out)
      have K1 := Lib.hid k1
      have HX := Lib.hid hx
      clear hx k1 b1 HF0
      go_wp2_with fail
      refine C2.out.mono ?_
      rintro e w2 ⟨y, rfl, hy, b2⟩
      have k2 := Below.onlyNew b2
      have kk : Only (fun _ => False) W w2 := K1.out.trans k2 (fun _ _ h => h)
      have hs2 := b2.size
      obtain ⟨A, c, rfl, hx⟩ := HX.out
      obtain ⟨A', c', rfl, hy⟩ := hy
      simp only [List.length_map] at hx hy
      obtain ⟨l, hl⟩ : ∃ l, l = (namedOf t).getD [] := ⟨_, rfl⟩
      rw [← hl] at hx hy
      have HLX := Lib.hid (fun (hn : 0 < l.length) => (show ∃ gg, A = some ⟨gg, 0, none⟩ ∧ ∀ w3, Only (fun _ => False) w2 w3 → ∀ j (h : j < l.length), w3.cell? ⟨gg, j, none⟩ = some (fieldV w.heap.size l[j]) from by
        obtain ⟨gg, e, a1, a2, a3⟩ := hx hn
        refine ⟨gg, e, fun w3 k3 j hj => ?_⟩
        rw [k3.cell (p := ⟨gg, j, none⟩) (by simp only; omega) (fun h => h), k2.cell (p := ⟨gg, j, none⟩) a2 (fun h => h), a3 j (by simpa using hj)]
        simp))
      have HLY := Lib.hid (fun (hn : 0 < l.length) => (show ∃ gg, A' = some ⟨gg, 0, none⟩ ∧ ∀ w3, Only (fun _ => False) w2 w3 → ∀ j (h : j < l.length), w3.cell? ⟨gg, j, none⟩ = some (fieldV (w.heap.size + 1) l[j]) from by
        obtain ⟨gg, e, a1, a2, a3⟩ := hy hn
        refine ⟨gg, e, fun w3 k3 j hj => ?_⟩
        rw [k3.cell (p := ⟨gg, j, none⟩) a2 (fun h => h), a3 j (by simpa using hj)]
        simp))
      have hpl : ∀ p ∈ l, p ∈ places ∧ p.1.std := by
        intro p hp
        cases hn : namedOf t with
        | none =>
          rw [hn] at hl
          subst hl
          simp at hp
        | some l' =>
          rw [hn] at hl
          have : l = l' := hl
          subst this
          exact ⟨(named_mem hn).1 p hp, ((named_std hn).1 p hp).1⟩
      have hl4 : l.length ≤ 4 := by
        cases hn : namedOf t with
        | none =>
          rw [hn] at hl
          subst hl
          simp
        | some l' =>
          rw [hn] at hl
          have : l = l' := hl
          subst this
          exact (named_std hn).2
      have hsame : sameM t tag t tag m m' ↔ fieldsOf m l = fieldsOf m' l := by
        unfold sameM
        constructor
        · rintro ⟨_, _, h⟩
          cases hn : namedOf t with
          | none =>
            rw [hn] at hl
            subst hl
            rfl
          | some l' =>
            rw [hn] at hl
            have : l = l' := hl
            subst this
            exact h l hn
        · intro h
          refine ⟨rfl, rfl, fun l' hn => ?_⟩
          rw [hn] at hl
          have : l = l' := hl
          subst this
          exact h
      have HP := Lib.hid hpl
      have HS := Lib.hid hsame
      have KK := Lib.hid kk
      have I0 : Hid (fieldsOf m (l.take 0) = fieldsOf m' (l.take 0) ∧ Only (fun _ => False) w2 w2) := ⟨by simp [fieldsOf], Only.refl _ _⟩
      clear hx hy hpl hsame HX K1 k2 b2 C2 kk
      rw [← hl]
      simp only [List.length_map]
      clear hl
      go_wp2_with fail
      go_loopw [32] (fun i wr => ∃ j : Nat, j ≤ l.length ∧ i = .int .i64 j ∧ Hid (fieldsOf m (l.take j) = fieldsOf m' (l.take j) ∧ Only (fun _ => False) w2 wr)) (fun i _ => l.length - (intOf i).toNat)
      case atStart => exact ⟨0, Nat.zero_le _, rfl, I0⟩
      case round =>
        obtain ⟨j, hj, rfl, hrel⟩ := hrel
        clear I0
        by_cases hlt : j < l.length
        · obtain ⟨ga, rfl, hca⟩ := HLX.out (by omega)
          obtain ⟨gb, rfl, hcb⟩ := HLY.out (by omega)
          have kw := hrel.out.2
          have kd : Only (fun _ => False) wr wr.drew := ⟨rfl, rfl, rfl, Nat.le_refl _, fun _ _ _ => rfl⟩
          have c0 := hca wr kw j hlt
          have c1 := hcb wr kw j hlt
          have i0 : (0 : Int) ≤ (j : Int) := by omega
          have i1 : (j : Int) < (l.length : Int) := by omega
          obtain ⟨hp, hstd⟩ := HP.out l[j] (List.getElem_mem hlt)
          have kall : Only (fun _ => False) W wr.drew := (KK.out.trans kw (fun _ _ h => h)).trans kd (fun _ _ h => h)
          have hsz := kall.size
          have C3 := samef_any w.heap.size l[j].2 (w.heap.size + 1) l[j].2 cs cs' lo hi lo' hi' (m l[j].2) (m' l[j].2) wr.drew (HA.out.only kall (fun h => h)) (HB.out.only kall (fun h => h)) ((HG1.out.lies _ hp).keep (kall.keeps (by omega) (fun _ _ _ h => h))) ((HG2.out.lies _ hp).keep (kall.keeps (by omega) (fun _ _ _ h => h)))
            (by rw [HG1.out.kind _ hp]; exact hstd) (by rw [HG1.out.kind _ hp, HG2.out.kind _ hp]) (by omega) (by omega) (HF.out _ hp)
          rw [HG1.out.kind _ hp] at C3
          have e1 : fieldV w.heap.size l[j] = .iface l[j].1.ptr (.pointer (some ⟨w.heap.size, l[j].2, none⟩)) := rfl
          have e2 : fieldV (w.heap.size + 1) l[j] = .iface l[j].1.ptr (.pointer (some ⟨w.heap.size + 1, l[j].2, none⟩)) := rfl
          rw [e1] at c0
          rw [e2] at c1
          have R1 : Hid (m l[j].2 = m' l[j].2 → ∀ w4, Below wr.drew.heap.size wr.drew w4 → fieldsOf m (l.take (j + 1)) = fieldsOf m' (l.take (j + 1)) ∧ Only (fun _ => False) w2 w4) :=
            fun he w4 b4 => ⟨fieldsOf_next hrel.out.1 hlt he, (kw.trans kd (fun _ _ h => h)).trans (Below.onlyNew b4) (fun _ _ h => h)⟩
          have R2 : Hid (m l[j].2 ≠ m' l[j].2 → ∀ w4, Below wr.drew.heap.size wr.drew w4 → Tells w (sameM t tag t tag m m') (.returned (.bool false)) w4) := by
            intro he w4 b4
            refine ⟨⟨false, rfl, ?_⟩, ((KW.out.trans kall (fun _ _ h => h)).trans (Below.onlyNew b4) (fun _ _ h => h)).below (Nat.le_refl _) (fun _ _ h => h)⟩
            simp only [Bool.false_eq_true, false_iff]
            intro h
            exact he (fieldsOf_get (HS.out.1 h) hlt)
          obtain ⟨ty, hty⟩ : ∃ ty, ty = l[j].1.ptr := ⟨_, rfl⟩
          obtain ⟨off, hoff⟩ : ∃ off, off = l[j].2 := ⟨_, rfl⟩
          rw [← hty] at C3 c0 c1
          rw [← hoff] at C3 c0 c1 R1 R2
          have C4 := Lib.hid C3
          clear C3 hrel hca hcb kw kd hp hstd kall hsz e1 e2 hty hoff
          go_wp2_with fail
          go_still_tail 8, (by kernel_rfl)
          go_wp2_with fail
          refine C4.out.mono ?_
          rintro e w4 ⟨⟨b, rfl, hb⟩, b4⟩
          by_cases he : m off = m' off
          · have hbt : b = true := hb.2 he
            subst hbt
            have R := Lib.hid (R1.out he w4 b4)
            clear C4 R1 R2 hb b4 he c0 c1
            go_wp2
            go_roundw
            case rel => exact ⟨j + 1, by omega, by go_num, R⟩
            case measure => simp [intOf]; omega
          · have hbf : b = false := by
              cases b with
              | true => exact absurd (hb.1 rfl) he
              | false => rfl
            subst hbf
            have R := Lib.hid (R2.out he w4 b4)
            clear C4 R1 R2 hb b4 he c0 c1
            go_wp2
            go_ret
            exact R.out
        · have hj4 : j = l.length := by omega
          have R : Hid (Tells w (sameM t tag t tag m m') (.returned (.bool true)) wr) := by
            refine ⟨⟨true, rfl, ?_⟩, ((KW.out.trans KK.out (fun _ _ h => h)).trans hrel.out.2 (fun _ _ h => h)).below (Nat.le_refl _) (fun _ _ h => h)⟩
            have := hrel.out.1
            rw [hj4, List.take_length] at this
            simpa using HS.out.2 this
          have i1 : ¬ (j : Int) < (l.length : Int) := by omega
          clear hrel hj4
          go_wp2
          go_ret
          exact R.out
    · subst htt
      have dt : ((t : Int) != (t : Int)) = false := by simp
      have dg : ((tag : Int) != (tag' : Int)) = true := by simp; omega
      rw [hW] at c0 c1 d0 d1
      have HW := Lib.hid hW.symm
      have HN : Hid (¬ sameM t tag t tag' m m') := fun h => hgg h.2.1
      clear h1 h2 ht htag ht' htag' hfew k0 hA hB e0 e1 f0 f1 g1 g2 hW hgg
      go_enter Tryz.func11, Tryz.ntmps11
      go_wp2
      go_ret
      rw [HW.out]
      exact ⟨⟨_, rfl, by simpa using HN.out⟩, KW.out.below (Nat.le_refl _) (fun _ _ h => h)⟩
  · have dt : ((t : Int) != (t' : Int)) = true := by simp; omega
    rw [hW] at c0 c1 d0 d1
    have HW := Lib.hid hW.symm
    have HN : Hid (¬ sameM t tag t' tag' m m') := fun h => htt h.1
    clear h1 h2 ht htag ht' htag' hfew k0 hA hB e0 e1 f0 f1 g1 g2 hW htt
    go_enter Tryz.func11, Tryz.ntmps11
    go_wp2
    go_ret
    rw [HW.out]
    exact ⟨⟨_, rfl, by simpa using HN.out⟩, KW.out.below (Nat.le_refl _) (fun _ _ h => h)⟩
end Go.Proofs.YtepiifbleoimkaaGreatDoor
