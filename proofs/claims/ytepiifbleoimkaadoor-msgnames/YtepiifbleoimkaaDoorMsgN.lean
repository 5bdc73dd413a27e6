/-
  Package msg: same: two fields of one kind.
-/
import Derived.Test.YtepiifbleoimkaaDoorMsgM
import Derived.Deep.QuietTactic
import Derived.BigQuiet
namespace Go.Proofs.YtepiifbleoimkaaDoor
open Go.RowKit
set_option maxRecDepth 100000

/-- What a comparison answers. -/
def Tells (w : World) (p : Prop) (e : Ending) (w' : World) : Prop := (∃ b : Bool, e = .returned (.bool b) ∧ (b = true ↔ p)) ∧ Below w.heap.size w w'
theorem Tells.of {w : World} {p q : Prop} {e : Ending} {w' : World} (h : Tells w p e w') (hpq : p ↔ q) : Tells w q e w' := by
  obtain ⟨⟨b, he, hb⟩, k⟩ := h
  exact ⟨⟨b, he, hb.trans hpq⟩, k⟩
theorem below_drewN (w : World) (n : Nat) : Below w.heap.size w (w.drewN n) := ⟨rfl, rfl, rfl, Nat.le_refl _, fun _ _ => rfl⟩
theorem Q3.eq_iff {q r : Q3} : q = r ↔ q.t = r.t ∧ q.v = r.v ∧ q.p = r.p := by
  cases q
  cases r
  simp
theorem S11.eq_iff {s r : S11} : s = r ↔ s.k = r.k ∧ s.d = r.d ∧ s.q = r.q ∧ s.m = r.m ∧ s.a = r.a ∧ s.c = r.c ∧ s.l = r.l ∧ s.n = r.n ∧ s.u = r.u ∧ s.g = r.g ∧ s.x = r.x := by
  cases s
  cases r
  simp
theorem strOf_iff {l m : List UInt8} : strOf l = strOf m ↔ l = m := ⟨strOf_inj, fun h => by rw [h]⟩
set_option maxHeartbeats 400000 in
theorem Tryd.eqQid (q r : Q3) (h : q ≠ r) : ∀ w, (binOp .eql 28 (.agg #[.int .u8 (q.t : Int), .int .u32 (q.v : Int), .int .u64 (q.p : Int)]) (.agg #[.int .u8 (r.t : Int), .int .u32 (r.v : Int), .int .u64 (r.p : Int)])).run Tryd.prog w = .ok (.bool false) w := by
  intro w
  go_simp
  intro h1 h2 h3
  exact h (Q3.eq_iff.2 ⟨by omega, by omega, by omega⟩)
set_option maxHeartbeats 400000 in
theorem Tryd.neQid (q r : Q3) (h : q ≠ r) : ∀ w, (binOp .neq 28 (.agg #[.int .u8 (q.t : Int), .int .u32 (q.v : Int), .int .u64 (q.p : Int)]) (.agg #[.int .u8 (r.t : Int), .int .u32 (r.v : Int), .int .u64 (r.p : Int)])).run Tryd.prog w = .ok (.bool true) w := by
  intro w
  go_simp
  intro h1 h2 h3
  exact h (Q3.eq_iff.2 ⟨by omega, by omega, by omega⟩)
set_option maxHeartbeats 400000 in
theorem Tryd.eqStat (s r : S11) (h : s ≠ r) : ∀ w, (binOp .eql 31 s.val r.val).run Tryd.prog w = .ok (.bool false) w := by
  intro w
  unfold S11.val S11.cells
  go_simp
  intro h1 h2 h3 h4 h5 h6 h7 h8 h9 h10 h11 h12 h13
  rw [strOf_list, strOf_list] at h10 h11 h12 h13
  exact h (S11.eq_iff.2 ⟨by omega, by omega, Q3.eq_iff.2 ⟨by omega, by omega, by omega⟩, by omega, by omega, by omega, by omega, h10, h11, h12, h13⟩)

theorem Tryd.at_u8 (p : Addr) : ∀ w, (Instr.typeAssert (.iface 88 (.pointer (some p))) 20 88 false).run Tryd.prog w = .ok (.pointer (some p)) w := by intro w; kernel_rfl
theorem Tryd.at_u16 (p : Addr) : ∀ w, (Instr.typeAssert (.iface 85 (.pointer (some p))) 20 85 false).run Tryd.prog w = .ok (.pointer (some p)) w := by intro w; kernel_rfl
theorem Tryd.at_u32 (p : Addr) : ∀ w, (Instr.typeAssert (.iface 82 (.pointer (some p))) 20 82 false).run Tryd.prog w = .ok (.pointer (some p)) w := by intro w; kernel_rfl
theorem Tryd.at_u64 (p : Addr) : ∀ w, (Instr.typeAssert (.iface 89 (.pointer (some p))) 20 89 false).run Tryd.prog w = .ok (.pointer (some p)) w := by intro w; kernel_rfl
theorem Tryd.at_text (p : Addr) : ∀ w, (Instr.typeAssert (.iface 83 (.pointer (some p))) 20 83 false).run Tryd.prog w = .ok (.pointer (some p)) w := by intro w; kernel_rfl
theorem Tryd.at_texts (p : Addr) : ∀ w, (Instr.typeAssert (.iface 86 (.pointer (some p))) 20 86 false).run Tryd.prog w = .ok (.pointer (some p)) w := by intro w; kernel_rfl
theorem Tryd.at_qid (p : Addr) : ∀ w, (Instr.typeAssert (.iface 84 (.pointer (some p))) 20 84 false).run Tryd.prog w = .ok (.pointer (some p)) w := by intro w; kernel_rfl
theorem Tryd.at_qids (p : Addr) : ∀ w, (Instr.typeAssert (.iface 87 (.pointer (some p))) 20 87 false).run Tryd.prog w = .ok (.pointer (some p)) w := by intro w; kernel_rfl
theorem Tryd.at_data (p : Addr) : ∀ w, (Instr.typeAssert (.iface 90 (.pointer (some p))) 20 90 false).run Tryd.prog w = .ok (.pointer (some p)) w := by intro w; kernel_rfl
theorem Tryd.at_stat (p : Addr) : ∀ w, (Instr.typeAssert (.iface 91 (.pointer (some p))) 20 91 false).run Tryd.prog w = .ok (.pointer (some p)) w := by intro w; kernel_rfl
set_option maxHeartbeats 1000000 in
theorem same_u8 (ma oa mb ob : Nat) (ca cb : Array Value) (x y : Nat) (w : World) (ha : Has w ma 33 ca) (hb : Has w mb 33 cb) (hca : ca[oa]? = some (.int .u8 (x : Int))) (hcb : cb[ob]? = some (.int .u8 (y : Int))) :
    Calls Tryd.prog 37 #[.iface 88 (.pointer (some ⟨ma, oa, none⟩)), .iface 88 (.pointer (some ⟨mb, ob, none⟩))] w (Tells w (x = y)) := by
  have c0 := (ha.cell oa).trans hca
  have c1 := (hb.cell ob).trans hcb
  have a0 := Tryd.as_u8_u8 ⟨ma, oa, none⟩
  have b0 := Tryd.at_u8 ⟨mb, ob, none⟩
  clear ha hb hca hcb
  go_enter Tryd.func37, Tryd.ntmps37
  go_wp2_with fail
  go_quiet (fail)
  go_wp2
  go_ret
  exact ⟨⟨_, rfl, by simp; omega⟩, below_drewN _ _⟩

set_option maxHeartbeats 1000000 in
theorem same_u16 (ma oa mb ob : Nat) (ca cb : Array Value) (x y : Nat) (w : World) (ha : Has w ma 33 ca) (hb : Has w mb 33 cb) (hca : ca[oa]? = some (.int .u16 (x : Int))) (hcb : cb[ob]? = some (.int .u16 (y : Int))) :
    Calls Tryd.prog 37 #[.iface 85 (.pointer (some ⟨ma, oa, none⟩)), .iface 85 (.pointer (some ⟨mb, ob, none⟩))] w (Tells w (x = y)) := by
  have c0 := (ha.cell oa).trans hca
  have c1 := (hb.cell ob).trans hcb
  have a0 := Tryd.as_u16_u8 ⟨ma, oa, none⟩
  have a1 := Tryd.as_u16_u16 ⟨ma, oa, none⟩
  have b0 := Tryd.at_u16 ⟨mb, ob, none⟩
  clear ha hb hca hcb
  go_enter Tryd.func37, Tryd.ntmps37
  go_wp2_with fail
  go_quiet (fail)
  go_wp2
  go_ret
  exact ⟨⟨_, rfl, by simp; omega⟩, below_drewN _ _⟩

set_option maxHeartbeats 1000000 in
theorem same_u32 (ma oa mb ob : Nat) (ca cb : Array Value) (x y : Nat) (w : World) (ha : Has w ma 33 ca) (hb : Has w mb 33 cb) (hca : ca[oa]? = some (.int .u32 (x : Int))) (hcb : cb[ob]? = some (.int .u32 (y : Int))) :
    Calls Tryd.prog 37 #[.iface 82 (.pointer (some ⟨ma, oa, none⟩)), .iface 82 (.pointer (some ⟨mb, ob, none⟩))] w (Tells w (x = y)) := by
  have c0 := (ha.cell oa).trans hca
  have c1 := (hb.cell ob).trans hcb
  have a0 := Tryd.as_u32_u8 ⟨ma, oa, none⟩
  have a1 := Tryd.as_u32_u16 ⟨ma, oa, none⟩
  have a2 := Tryd.as_u32_u32 ⟨ma, oa, none⟩
  have b0 := Tryd.at_u32 ⟨mb, ob, none⟩
  clear ha hb hca hcb
  go_enter Tryd.func37, Tryd.ntmps37
  go_wp2_with fail
  go_quiet (fail)
  go_wp2
  go_ret
  exact ⟨⟨_, rfl, by simp; omega⟩, below_drewN _ _⟩

set_option maxHeartbeats 1000000 in
theorem same_u64 (ma oa mb ob : Nat) (ca cb : Array Value) (x y : Nat) (w : World) (ha : Has w ma 33 ca) (hb : Has w mb 33 cb) (hca : ca[oa]? = some (.int .u64 (x : Int))) (hcb : cb[ob]? = some (.int .u64 (y : Int))) :
    Calls Tryd.prog 37 #[.iface 89 (.pointer (some ⟨ma, oa, none⟩)), .iface 89 (.pointer (some ⟨mb, ob, none⟩))] w (Tells w (x = y)) := by
  have c0 := (ha.cell oa).trans hca
  have c1 := (hb.cell ob).trans hcb
  have a0 := Tryd.as_u64_u8 ⟨ma, oa, none⟩
  have a1 := Tryd.as_u64_u16 ⟨ma, oa, none⟩
  have a2 := Tryd.as_u64_u32 ⟨ma, oa, none⟩
  have a3 := Tryd.as_u64_u64 ⟨ma, oa, none⟩
  have b0 := Tryd.at_u64 ⟨mb, ob, none⟩
  clear ha hb hca hcb
  go_enter Tryd.func37, Tryd.ntmps37
  go_wp2_with fail
  go_quiet (fail)
  go_wp2
  go_ret
  exact ⟨⟨_, rfl, by simp; omega⟩, below_drewN _ _⟩

set_option maxHeartbeats 1000000 in
theorem same_text (ma oa mb ob : Nat) (ca cb : Array Value) (x y : List UInt8) (w : World) (ha : Has w ma 33 ca) (hb : Has w mb 33 cb) (hca : ca[oa]? = some (.string (strOf x))) (hcb : cb[ob]? = some (.string (strOf y))) :
    Calls Tryd.prog 37 #[.iface 83 (.pointer (some ⟨ma, oa, none⟩)), .iface 83 (.pointer (some ⟨mb, ob, none⟩))] w (Tells w (x = y)) := by
  have c0 := (ha.cell oa).trans hca
  have c1 := (hb.cell ob).trans hcb
  have a0 := Tryd.as_text_u8 ⟨ma, oa, none⟩
  have a1 := Tryd.as_text_u16 ⟨ma, oa, none⟩
  have a2 := Tryd.as_text_u32 ⟨ma, oa, none⟩
  have a3 := Tryd.as_text_u64 ⟨ma, oa, none⟩
  have a4 := Tryd.as_text_text ⟨ma, oa, none⟩
  have b0 := Tryd.at_text ⟨mb, ob, none⟩
  clear ha hb hca hcb
  go_enter Tryd.func37, Tryd.ntmps37
  go_wp2_with fail
  go_quiet (fail)
  go_wp2
  go_ret
  exact ⟨⟨_, rfl, by simp [strOf_list]⟩, below_drewN _ _⟩

end Go.Proofs.YtepiifbleoimkaaDoor
