/-
  Package msg: put: whatever field is there.
-/
import Derived.Test.YtepiifbleoimkaaDoorMsgB
namespace Go.Proofs.YtepiifbleoimkaaDoor
open Go.RowKit
set_option maxRecDepth 100000

theorem qidsB_succ (qs : List Q3) (j : Nat) (h : j < qs.length) : qidsB (qs.take (j + 1)) = qidsB (qs.take j) ++ qidB qs[j] := by
  unfold qidsB
  rw [List.take_succ_eq_append_getElem h, List.flatMap_append]
  simp
theorem qidsB_length (qs : List Q3) : (qidsB qs).length = 13 * qs.length := by
  induction qs with
  | nil => rfl
  | cons q qs ih =>
    have e : qidsB (q :: qs) = qidB q ++ qidsB qs := by simp [qidsB]
    rw [e, List.length_append, ih, qidB_length, List.length_cons]
    omega

set_option maxHeartbeats 2000000 in
theorem putlistq_any (B g : Nat) (v x : Value) (bs : List UInt8) (L : List Q3) (lo hi : Nat) (w : World) (h : OutAt w B g v bs) (hx : QdsAt w lo hi x L) (hhi : hi ≤ B)
    (hL : ∀ q ∈ L, q.Ok) (hl : L.length ≤ 1000) (hb : bs.length ≤ 500000) :
    Calls Tryd.prog 46 #[.pointer (some ⟨g, 0, none⟩), x, .func (.func 45) #[] #[]] w (PutStep w B g v bs (fErr (.qids L)) (fB (.qids L))) := by
  have hft : ∀ i, Foot g v i → B ≤ i ∧ i < w.heap.size := fun i hi => h.foot_lt hi
  have hBw : B ≤ w.heap.size := by have := hft g (.inl rfl); omega
  have HX := Lib.hid (fun (w1 : World) (bs : List UInt8) (v1 : Value) (c : Chain w B g v bs w1 v1) => hx.keep (c.only.keeps (by omega) (fun i _ hi hf => by have := (hft i hf).1; omega)))
  have C := Lib.hid (put_any B g v bs 2 (L.length : Int) w h (by omega) (by omega) (by omega))
  have hp : putI 2 (L.length : Int) = putB 2 L.length := putI_of 2 _ (by omega) (by omega)
  rw [hp] at C
  have hpl := putB_length 2 L.length
  obtain ⟨A, c, hxe, _⟩ := id hx
  have X0 := Lib.hid (Chain.start h)
  have eg := Tryd.enterPutQid
  clear h hft hx hp
  simp only [fErr, fB]
  by_cases hz : 16 < L.length
  · have hd : decide ((L.length : Int) ≤ 16) = false := decide_eq_false (by omega)
    have R : Hid (PutStep w B g v bs 3 (putB 2 L.length ++ qidsB L) (.panicked [{ v := .iface 36 (.int .i64 3), recovered := false }]) w) := .inr ⟨by decide, rfl, Only.refl _ _⟩
    rw [if_pos hz, hxe]
    clear C HX X0 hpl
    go_enter Tryd.func46, Tryd.ntmps46
    go_wp2_with fail
    refine (must_no 3 w).mono ?_
    rintro e w' ⟨rfl, rfl⟩
    go_wp2
    exact ⟨rfl, R.out⟩
  · have hd : decide ((L.length : Int) ≤ 16) = true := decide_eq_true (by omega)
    have hw : IntKind.u64.wrap (L.length : Int) = (L.length : Int) := IntWalk.u64_in _ (by omega)
    rw [if_neg hz]
    have hl16 : L.length ≤ 16 := by omega
    rw [hxe] at HX ⊢
    have HL := Lib.hid hL
    clear hxe hL
    go_enter Tryd.func46, Tryd.ntmps46
    go_wp2_with fail
    refine (must_yes 3 w).mono ?_
    rintro e w' ⟨rfl, rfl⟩
    go_wp2_with fail
    refine C.out.mono ?_
    intro e w1 st
    obtain ⟨v1, rfl, x1⟩ := X0.out.step st
    have I0 : Hid (ListInv w B g v (bs ++ putB 2 L.length ++ qidsB (L.take 0)) w1) := ⟨v1, by simpa [qidsB] using x1⟩
    clear C st x1 X0
    go_wp2_with fail
    go_loopw [19] (fun i wr => ∃ j : Nat, j ≤ L.length ∧ i = .int .i64 j ∧ Hid (ListInv w B g v (bs ++ putB 2 L.length ++ qidsB (L.take j)) wr)) (fun i _ => L.length - (intOf i).toNat)
    case atStart => exact ⟨0, Nat.zero_le _, rfl, I0⟩
    case round =>
      obtain ⟨j, hj, rfl, hrel⟩ := hrel
      clear I0
      obtain ⟨v2, hC⟩ := hrel.out
      by_cases hlt : j < L.length
      · obtain ⟨A', c', hAe, _, _, hcs⟩ := HX.out _ _ _ hC
        injection hAe with hA hn hc
        subst hA hc
        obtain ⟨ad, rfl, hb1, hb2, hcl⟩ := hcs (by omega)
        obtain ⟨c0, c1, c2⟩ := hcl j hlt
        have i0 : (0 : Int) ≤ (j : Int) := by omega
        have i1 : (j : Int) < (L.length : Int) := by omega
        have hle := qidsB_length (L.take j)
        have hl2 : (L.take j).length ≤ 16 := by rw [List.length_take]; omega
        have hq := HL.out (L[j]'hlt) (List.getElem_mem hlt)
        have h4 := qidsB_succ L j hlt
        obtain ⟨q, ht⟩ : ∃ t, t = L[j]'hlt := ⟨_, rfl⟩
        rw [← ht] at c0 c1 c2 hq h4
        have hC := hC.quiet ((Only.refl (fun _ => False) wr).alloc (.cells #[.int .u8 (q.t : Int), .int .u32 (q.v : Int), .int .u64 (q.p : Int)] 28)) (fun _ _ h => h)
        have C : Hid (Calls Tryd.prog 45 #[.pointer (some ⟨g, 0, none⟩), .agg #[.int .u8 (q.t : Int), .int .u32 (q.v : Int), .int .u64 (q.p : Int)]] (wr.alloc (.cells #[.int .u8 (q.t : Int), .int .u32 (q.v : Int), .int .u64 (q.p : Int)] 28)) (OutStep (wr.alloc (.cells #[.int .u8 (q.t : Int), .int .u32 (q.v : Int), .int .u64 (q.p : Int)] 28)) B g v2 (bs ++ putB 2 L.length ++ qidsB (L.take j) ++ qidB q))) :=
          qidput_any B g v2 _ q _ hC.out hq (by simp only [List.length_append]; omega)
        have fin : Hid (∀ e w2, OutStep (wr.alloc (.cells #[.int .u8 (q.t : Int), .int .u32 (q.v : Int), .int .u64 (q.p : Int)] 28)) B g v2 (bs ++ putB 2 L.length ++ qidsB (L.take j) ++ qidB q) e w2 → e = .returned (.tuple #[]) ∧ ListInv w B g v (bs ++ putB 2 L.length ++ qidsB (L.take (j + 1))) w2) := by
          intro e w2 st
          obtain ⟨v3, he, x3⟩ := hC.step st
          exact ⟨he, v3, by rw [h4, ← List.append_assoc]; exact x3⟩
        clear hC hrel hle hl2 h4 ht hcs hcl hb1 hb2 hq
        go_wp2_with fail
        go_at_fn 45
        refine C.out.mono ?_
        intro e w2 hst
        obtain ⟨rfl, hR⟩ := fin.out e w2 hst
        have R := Lib.hid hR
        clear hst fin C hR c0 c1 c2
        go_wp2
        go_roundw
        case rel => exact ⟨j + 1, by omega, by go_num, R⟩
        case measure => simp [intOf]; omega
      · have hj4 : j = L.length := by omega
        subst hj4
        rw [List.take_length] at hC
        have R : Hid (PutStep w B g v bs 0 (putB 2 L.length ++ qidsB L) (.returned (.tuple #[])) wr) := by
          exact .inl ⟨rfl, by rw [← List.append_assoc]; exact hC.fin (Only.refl _ _)⟩
        clear hC hrel
        go_wp2
        go_end0
        exact R.out

/-! What a pointer in an interface is asserted to be. -/
theorem Tryd.as_u8_u8 (p : Addr) : ∀ w, (Instr.typeAssert (.iface 88 (.pointer (some p))) 20 88 true).run Tryd.prog w = .ok (.tuple #[.pointer (some p), .bool true]) w := by intro w; kernel_rfl
theorem Tryd.as_u16_u8 (p : Addr) : ∀ w, (Instr.typeAssert (.iface 85 (.pointer (some p))) 20 88 true).run Tryd.prog w = .ok (.tuple #[.pointer none, .bool false]) w := by intro w; kernel_rfl
theorem Tryd.as_u16_u16 (p : Addr) : ∀ w, (Instr.typeAssert (.iface 85 (.pointer (some p))) 20 85 true).run Tryd.prog w = .ok (.tuple #[.pointer (some p), .bool true]) w := by intro w; kernel_rfl
theorem Tryd.as_u32_u8 (p : Addr) : ∀ w, (Instr.typeAssert (.iface 82 (.pointer (some p))) 20 88 true).run Tryd.prog w = .ok (.tuple #[.pointer none, .bool false]) w := by intro w; kernel_rfl
theorem Tryd.as_u32_u16 (p : Addr) : ∀ w, (Instr.typeAssert (.iface 82 (.pointer (some p))) 20 85 true).run Tryd.prog w = .ok (.tuple #[.pointer none, .bool false]) w := by intro w; kernel_rfl
theorem Tryd.as_u32_u32 (p : Addr) : ∀ w, (Instr.typeAssert (.iface 82 (.pointer (some p))) 20 82 true).run Tryd.prog w = .ok (.tuple #[.pointer (some p), .bool true]) w := by intro w; kernel_rfl
theorem Tryd.as_u64_u8 (p : Addr) : ∀ w, (Instr.typeAssert (.iface 89 (.pointer (some p))) 20 88 true).run Tryd.prog w = .ok (.tuple #[.pointer none, .bool false]) w := by intro w; kernel_rfl
theorem Tryd.as_u64_u16 (p : Addr) : ∀ w, (Instr.typeAssert (.iface 89 (.pointer (some p))) 20 85 true).run Tryd.prog w = .ok (.tuple #[.pointer none, .bool false]) w := by intro w; kernel_rfl
theorem Tryd.as_u64_u32 (p : Addr) : ∀ w, (Instr.typeAssert (.iface 89 (.pointer (some p))) 20 82 true).run Tryd.prog w = .ok (.tuple #[.pointer none, .bool false]) w := by intro w; kernel_rfl
theorem Tryd.as_u64_u64 (p : Addr) : ∀ w, (Instr.typeAssert (.iface 89 (.pointer (some p))) 20 89 true).run Tryd.prog w = .ok (.tuple #[.pointer (some p), .bool true]) w := by intro w; kernel_rfl
theorem Tryd.as_text_u8 (p : Addr) : ∀ w, (Instr.typeAssert (.iface 83 (.pointer (some p))) 20 88 true).run Tryd.prog w = .ok (.tuple #[.pointer none, .bool false]) w := by intro w; kernel_rfl
theorem Tryd.as_text_u16 (p : Addr) : ∀ w, (Instr.typeAssert (.iface 83 (.pointer (some p))) 20 85 true).run Tryd.prog w = .ok (.tuple #[.pointer none, .bool false]) w := by intro w; kernel_rfl
theorem Tryd.as_text_u32 (p : Addr) : ∀ w, (Instr.typeAssert (.iface 83 (.pointer (some p))) 20 82 true).run Tryd.prog w = .ok (.tuple #[.pointer none, .bool false]) w := by intro w; kernel_rfl
theorem Tryd.as_text_u64 (p : Addr) : ∀ w, (Instr.typeAssert (.iface 83 (.pointer (some p))) 20 89 true).run Tryd.prog w = .ok (.tuple #[.pointer none, .bool false]) w := by intro w; kernel_rfl
theorem Tryd.as_text_text (p : Addr) : ∀ w, (Instr.typeAssert (.iface 83 (.pointer (some p))) 20 83 true).run Tryd.prog w = .ok (.tuple #[.pointer (some p), .bool true]) w := by intro w; kernel_rfl
theorem Tryd.as_texts_u8 (p : Addr) : ∀ w, (Instr.typeAssert (.iface 86 (.pointer (some p))) 20 88 true).run Tryd.prog w = .ok (.tuple #[.pointer none, .bool false]) w := by intro w; kernel_rfl
theorem Tryd.as_texts_u16 (p : Addr) : ∀ w, (Instr.typeAssert (.iface 86 (.pointer (some p))) 20 85 true).run Tryd.prog w = .ok (.tuple #[.pointer none, .bool false]) w := by intro w; kernel_rfl
theorem Tryd.as_texts_u32 (p : Addr) : ∀ w, (Instr.typeAssert (.iface 86 (.pointer (some p))) 20 82 true).run Tryd.prog w = .ok (.tuple #[.pointer none, .bool false]) w := by intro w; kernel_rfl
theorem Tryd.as_texts_u64 (p : Addr) : ∀ w, (Instr.typeAssert (.iface 86 (.pointer (some p))) 20 89 true).run Tryd.prog w = .ok (.tuple #[.pointer none, .bool false]) w := by intro w; kernel_rfl
theorem Tryd.as_texts_text (p : Addr) : ∀ w, (Instr.typeAssert (.iface 86 (.pointer (some p))) 20 83 true).run Tryd.prog w = .ok (.tuple #[.pointer none, .bool false]) w := by intro w; kernel_rfl
theorem Tryd.as_texts_texts (p : Addr) : ∀ w, (Instr.typeAssert (.iface 86 (.pointer (some p))) 20 86 true).run Tryd.prog w = .ok (.tuple #[.pointer (some p), .bool true]) w := by intro w; kernel_rfl
theorem Tryd.as_qid_u8 (p : Addr) : ∀ w, (Instr.typeAssert (.iface 84 (.pointer (some p))) 20 88 true).run Tryd.prog w = .ok (.tuple #[.pointer none, .bool false]) w := by intro w; kernel_rfl
theorem Tryd.as_qid_u16 (p : Addr) : ∀ w, (Instr.typeAssert (.iface 84 (.pointer (some p))) 20 85 true).run Tryd.prog w = .ok (.tuple #[.pointer none, .bool false]) w := by intro w; kernel_rfl
theorem Tryd.as_qid_u32 (p : Addr) : ∀ w, (Instr.typeAssert (.iface 84 (.pointer (some p))) 20 82 true).run Tryd.prog w = .ok (.tuple #[.pointer none, .bool false]) w := by intro w; kernel_rfl
theorem Tryd.as_qid_u64 (p : Addr) : ∀ w, (Instr.typeAssert (.iface 84 (.pointer (some p))) 20 89 true).run Tryd.prog w = .ok (.tuple #[.pointer none, .bool false]) w := by intro w; kernel_rfl
theorem Tryd.as_qid_text (p : Addr) : ∀ w, (Instr.typeAssert (.iface 84 (.pointer (some p))) 20 83 true).run Tryd.prog w = .ok (.tuple #[.pointer none, .bool false]) w := by intro w; kernel_rfl
theorem Tryd.as_qid_texts (p : Addr) : ∀ w, (Instr.typeAssert (.iface 84 (.pointer (some p))) 20 86 true).run Tryd.prog w = .ok (.tuple #[.pointer none, .bool false]) w := by intro w; kernel_rfl
theorem Tryd.as_qid_qid (p : Addr) : ∀ w, (Instr.typeAssert (.iface 84 (.pointer (some p))) 20 84 true).run Tryd.prog w = .ok (.tuple #[.pointer (some p), .bool true]) w := by intro w; kernel_rfl
theorem Tryd.as_qids_u8 (p : Addr) : ∀ w, (Instr.typeAssert (.iface 87 (.pointer (some p))) 20 88 true).run Tryd.prog w = .ok (.tuple #[.pointer none, .bool false]) w := by intro w; kernel_rfl
theorem Tryd.as_qids_u16 (p : Addr) : ∀ w, (Instr.typeAssert (.iface 87 (.pointer (some p))) 20 85 true).run Tryd.prog w = .ok (.tuple #[.pointer none, .bool false]) w := by intro w; kernel_rfl
theorem Tryd.as_qids_u32 (p : Addr) : ∀ w, (Instr.typeAssert (.iface 87 (.pointer (some p))) 20 82 true).run Tryd.prog w = .ok (.tuple #[.pointer none, .bool false]) w := by intro w; kernel_rfl
theorem Tryd.as_qids_u64 (p : Addr) : ∀ w, (Instr.typeAssert (.iface 87 (.pointer (some p))) 20 89 true).run Tryd.prog w = .ok (.tuple #[.pointer none, .bool false]) w := by intro w; kernel_rfl
theorem Tryd.as_qids_text (p : Addr) : ∀ w, (Instr.typeAssert (.iface 87 (.pointer (some p))) 20 83 true).run Tryd.prog w = .ok (.tuple #[.pointer none, .bool false]) w := by intro w; kernel_rfl
theorem Tryd.as_qids_texts (p : Addr) : ∀ w, (Instr.typeAssert (.iface 87 (.pointer (some p))) 20 86 true).run Tryd.prog w = .ok (.tuple #[.pointer none, .bool false]) w := by intro w; kernel_rfl
theorem Tryd.as_qids_qid (p : Addr) : ∀ w, (Instr.typeAssert (.iface 87 (.pointer (some p))) 20 84 true).run Tryd.prog w = .ok (.tuple #[.pointer none, .bool false]) w := by intro w; kernel_rfl
theorem Tryd.as_qids_qids (p : Addr) : ∀ w, (Instr.typeAssert (.iface 87 (.pointer (some p))) 20 87 true).run Tryd.prog w = .ok (.tuple #[.pointer (some p), .bool true]) w := by intro w; kernel_rfl
theorem Tryd.as_data_u8 (p : Addr) : ∀ w, (Instr.typeAssert (.iface 90 (.pointer (some p))) 20 88 true).run Tryd.prog w = .ok (.tuple #[.pointer none, .bool false]) w := by intro w; kernel_rfl
theorem Tryd.as_data_u16 (p : Addr) : ∀ w, (Instr.typeAssert (.iface 90 (.pointer (some p))) 20 85 true).run Tryd.prog w = .ok (.tuple #[.pointer none, .bool false]) w := by intro w; kernel_rfl
theorem Tryd.as_data_u32 (p : Addr) : ∀ w, (Instr.typeAssert (.iface 90 (.pointer (some p))) 20 82 true).run Tryd.prog w = .ok (.tuple #[.pointer none, .bool false]) w := by intro w; kernel_rfl
theorem Tryd.as_data_u64 (p : Addr) : ∀ w, (Instr.typeAssert (.iface 90 (.pointer (some p))) 20 89 true).run Tryd.prog w = .ok (.tuple #[.pointer none, .bool false]) w := by intro w; kernel_rfl
theorem Tryd.as_data_text (p : Addr) : ∀ w, (Instr.typeAssert (.iface 90 (.pointer (some p))) 20 83 true).run Tryd.prog w = .ok (.tuple #[.pointer none, .bool false]) w := by intro w; kernel_rfl
theorem Tryd.as_data_texts (p : Addr) : ∀ w, (Instr.typeAssert (.iface 90 (.pointer (some p))) 20 86 true).run Tryd.prog w = .ok (.tuple #[.pointer none, .bool false]) w := by intro w; kernel_rfl
theorem Tryd.as_data_qid (p : Addr) : ∀ w, (Instr.typeAssert (.iface 90 (.pointer (some p))) 20 84 true).run Tryd.prog w = .ok (.tuple #[.pointer none, .bool false]) w := by intro w; kernel_rfl
theorem Tryd.as_data_qids (p : Addr) : ∀ w, (Instr.typeAssert (.iface 90 (.pointer (some p))) 20 87 true).run Tryd.prog w = .ok (.tuple #[.pointer none, .bool false]) w := by intro w; kernel_rfl
theorem Tryd.as_data_data (p : Addr) : ∀ w, (Instr.typeAssert (.iface 90 (.pointer (some p))) 20 90 true).run Tryd.prog w = .ok (.tuple #[.pointer (some p), .bool true]) w := by intro w; kernel_rfl
theorem Tryd.as_stat_u8 (p : Addr) : ∀ w, (Instr.typeAssert (.iface 91 (.pointer (some p))) 20 88 true).run Tryd.prog w = .ok (.tuple #[.pointer none, .bool false]) w := by intro w; kernel_rfl
theorem Tryd.as_stat_u16 (p : Addr) : ∀ w, (Instr.typeAssert (.iface 91 (.pointer (some p))) 20 85 true).run Tryd.prog w = .ok (.tuple #[.pointer none, .bool false]) w := by intro w; kernel_rfl
theorem Tryd.as_stat_u32 (p : Addr) : ∀ w, (Instr.typeAssert (.iface 91 (.pointer (some p))) 20 82 true).run Tryd.prog w = .ok (.tuple #[.pointer none, .bool false]) w := by intro w; kernel_rfl
theorem Tryd.as_stat_u64 (p : Addr) : ∀ w, (Instr.typeAssert (.iface 91 (.pointer (some p))) 20 89 true).run Tryd.prog w = .ok (.tuple #[.pointer none, .bool false]) w := by intro w; kernel_rfl
theorem Tryd.as_stat_text (p : Addr) : ∀ w, (Instr.typeAssert (.iface 91 (.pointer (some p))) 20 83 true).run Tryd.prog w = .ok (.tuple #[.pointer none, .bool false]) w := by intro w; kernel_rfl
theorem Tryd.as_stat_texts (p : Addr) : ∀ w, (Instr.typeAssert (.iface 91 (.pointer (some p))) 20 86 true).run Tryd.prog w = .ok (.tuple #[.pointer none, .bool false]) w := by intro w; kernel_rfl
theorem Tryd.as_stat_qid (p : Addr) : ∀ w, (Instr.typeAssert (.iface 91 (.pointer (some p))) 20 84 true).run Tryd.prog w = .ok (.tuple #[.pointer none, .bool false]) w := by intro w; kernel_rfl
theorem Tryd.as_stat_qids (p : Addr) : ∀ w, (Instr.typeAssert (.iface 91 (.pointer (some p))) 20 87 true).run Tryd.prog w = .ok (.tuple #[.pointer none, .bool false]) w := by intro w; kernel_rfl
theorem Tryd.as_stat_data (p : Addr) : ∀ w, (Instr.typeAssert (.iface 91 (.pointer (some p))) 20 90 true).run Tryd.prog w = .ok (.tuple #[.pointer none, .bool false]) w := by intro w; kernel_rfl
theorem Tryd.as_stat_stat (p : Addr) : ∀ w, (Instr.typeAssert (.iface 91 (.pointer (some p))) 20 91 true).run Tryd.prog w = .ok (.tuple #[.pointer (some p), .bool true]) w := by intro w; kernel_rfl

/-- The integer kind of so many bytes; the type of a pointer to a field of a kind. -/
def ik (n : Nat) : IntKind := if n = 1 then .u8 else if n = 2 then .u16 else if n = 4 then .u32 else .u64
def K.ptr : K → TypeId
  | .num n => if n = 1 then 88 else if n = 2 then 85 else if n = 4 then 82 else 89
  | .text => 83
  | .texts => 86
  | .qid => 84
  | .qids => 87
  | .data => 90
  | .stat => 91
def K.std : K → Prop
  | .num n => n = 1 ∨ n = 2 ∨ n = 4 ∨ n = 8
  | _ => True
/-- The field f lies at off of a row of cells; what its slices lead to lies in blocks from lo on and below hi. -/
def FAt (w : World) (lo hi : Nat) (cs : Array Value) (off : Nat) : F → Prop
  | .num n x => cs[off]? = some (.int (ik n) (x : Int))
  | .text l => cs[off]? = some (.string (strOf l))
  | .texts L => ∃ v, cs[off]? = some v ∧ StrsAt w lo hi v L
  | .qid q => cs[off]? = some (.int .u8 (q.t : Int)) ∧ cs[off + 1]? = some (.int .u32 (q.v : Int)) ∧ cs[off + 2]? = some (.int .u64 (q.p : Int))
  | .qids Q => ∃ v, cs[off]? = some v ∧ QdsAt w lo hi v Q
  | .data b => ∃ v, cs[off]? = some v ∧ SlIs w lo hi v b
  | .stat s => ∀ j, j < 13 → cs[off + j]? = s.cells[j]?
theorem FAt.keep {w w' : World} {lo hi : Nat} {cs : Array Value} {off : Nat} {f : F} (h : FAt w lo hi cs off f) (hk : ∀ p : Addr, lo ≤ p.block → p.block < hi → w'.cell? p = w.cell? p) : FAt w' lo hi cs off f := by
  cases f with
  | texts L => obtain ⟨v, h1, h2⟩ := h; exact ⟨v, h1, h2.keep hk⟩
  | qids L => obtain ⟨v, h1, h2⟩ := h; exact ⟨v, h1, h2.keep hk⟩
  | data L => obtain ⟨v, h1, h2⟩ := h; exact ⟨v, h1, h2.keep hk⟩
  | num n x => exact h
  | text l => exact h
  | qid q => exact h
  | stat s => exact h

set_option maxHeartbeats 1000000 in
theorem put_u8 (B g mb off : Nat) (v : Value) (bs : List UInt8) (cs : Array Value) (x : Nat) (w : World) (h : OutAt w B g v bs) (hm : Has w mb 33 cs) (hc : cs[off]? = some (.int .u8 (x : Int))) (hx : x < 256 ^ 1) (hb : bs.length ≤ 500000) :
    Calls Tryd.prog 28 #[.pointer (some ⟨g, 0, none⟩), .iface 88 (.pointer (some ⟨mb, off, none⟩))] w (OutStep w B g v (bs ++ putB 1 x)) := by
  have c0 := (hm.cell off).trans hc
  have hw : IntKind.u64.wrap (x : Int) = (x : Int) := IntWalk.u64_in _ (by omega)
  have C := Lib.hid (put_any B g v bs 1 (x : Int) w h (by omega) (by omega) (by omega))
  rw [show putI 1 (x : Int) = putB 1 x from putI_of 1 _ (by omega) (by omega)] at C
  have a0 := Tryd.as_u8_u8 ⟨mb, off, none⟩
  clear h hm hc
  go_enter Tryd.func28, Tryd.ntmps28
  go_wp2_with fail
  refine C.out.mono ?_
  rintro e w1 ⟨v1, rfl, st⟩
  have R : Hid (OutStep w B g v (bs ++ putB 1 x) (.returned (.tuple #[])) w1) := ⟨v1, rfl, st⟩
  clear C st c0
  go_wp2
  go_end0
  exact R.out

set_option maxHeartbeats 1000000 in
theorem put_u16 (B g mb off : Nat) (v : Value) (bs : List UInt8) (cs : Array Value) (x : Nat) (w : World) (h : OutAt w B g v bs) (hm : Has w mb 33 cs) (hc : cs[off]? = some (.int .u16 (x : Int))) (hx : x < 256 ^ 2) (hb : bs.length ≤ 500000) :
    Calls Tryd.prog 28 #[.pointer (some ⟨g, 0, none⟩), .iface 85 (.pointer (some ⟨mb, off, none⟩))] w (OutStep w B g v (bs ++ putB 2 x)) := by
  have c0 := (hm.cell off).trans hc
  have hw : IntKind.u64.wrap (x : Int) = (x : Int) := IntWalk.u64_in _ (by omega)
  have C := Lib.hid (put_any B g v bs 2 (x : Int) w h (by omega) (by omega) (by omega))
  rw [show putI 2 (x : Int) = putB 2 x from putI_of 2 _ (by omega) (by omega)] at C
  have a0 := Tryd.as_u16_u8 ⟨mb, off, none⟩
  have a1 := Tryd.as_u16_u16 ⟨mb, off, none⟩
  clear h hm hc
  go_enter Tryd.func28, Tryd.ntmps28
  go_wp2_with fail
  refine C.out.mono ?_
  rintro e w1 ⟨v1, rfl, st⟩
  have R : Hid (OutStep w B g v (bs ++ putB 2 x) (.returned (.tuple #[])) w1) := ⟨v1, rfl, st⟩
  clear C st c0
  go_wp2
  go_end0
  exact R.out

set_option maxHeartbeats 1000000 in
theorem put_u32 (B g mb off : Nat) (v : Value) (bs : List UInt8) (cs : Array Value) (x : Nat) (w : World) (h : OutAt w B g v bs) (hm : Has w mb 33 cs) (hc : cs[off]? = some (.int .u32 (x : Int))) (hx : x < 256 ^ 4) (hb : bs.length ≤ 500000) :
    Calls Tryd.prog 28 #[.pointer (some ⟨g, 0, none⟩), .iface 82 (.pointer (some ⟨mb, off, none⟩))] w (OutStep w B g v (bs ++ putB 4 x)) := by
  have c0 := (hm.cell off).trans hc
  have hw : IntKind.u64.wrap (x : Int) = (x : Int) := IntWalk.u64_in _ (by omega)
  have C := Lib.hid (put_any B g v bs 4 (x : Int) w h (by omega) (by omega) (by omega))
  rw [show putI 4 (x : Int) = putB 4 x from putI_of 4 _ (by omega) (by omega)] at C
  have a0 := Tryd.as_u32_u8 ⟨mb, off, none⟩
  have a1 := Tryd.as_u32_u16 ⟨mb, off, none⟩
  have a2 := Tryd.as_u32_u32 ⟨mb, off, none⟩
  clear h hm hc
  go_enter Tryd.func28, Tryd.ntmps28
  go_wp2_with fail
  refine C.out.mono ?_
  rintro e w1 ⟨v1, rfl, st⟩
  have R : Hid (OutStep w B g v (bs ++ putB 4 x) (.returned (.tuple #[])) w1) := ⟨v1, rfl, st⟩
  clear C st c0
  go_wp2
  go_end0
  exact R.out

set_option maxHeartbeats 1000000 in
theorem put_u64 (B g mb off : Nat) (v : Value) (bs : List UInt8) (cs : Array Value) (x : Nat) (w : World) (h : OutAt w B g v bs) (hm : Has w mb 33 cs) (hc : cs[off]? = some (.int .u64 (x : Int))) (hx : x < 256 ^ 8) (hb : bs.length ≤ 500000) :
    Calls Tryd.prog 28 #[.pointer (some ⟨g, 0, none⟩), .iface 89 (.pointer (some ⟨mb, off, none⟩))] w (OutStep w B g v (bs ++ putB 8 x)) := by
  have c0 := (hm.cell off).trans hc
  have hw : IntKind.u64.wrap (x : Int) = (x : Int) := IntWalk.u64_in _ (by omega)
  have C := Lib.hid (put_any B g v bs 8 (x : Int) w h (by omega) (by omega) (by omega))
  rw [show putI 8 (x : Int) = putB 8 x from putI_of 8 _ (by omega) (by omega)] at C
  have a0 := Tryd.as_u64_u8 ⟨mb, off, none⟩
  have a1 := Tryd.as_u64_u16 ⟨mb, off, none⟩
  have a2 := Tryd.as_u64_u32 ⟨mb, off, none⟩
  have a3 := Tryd.as_u64_u64 ⟨mb, off, none⟩
  clear h hm hc
  go_enter Tryd.func28, Tryd.ntmps28
  go_wp2_with fail
  refine C.out.mono ?_
  rintro e w1 ⟨v1, rfl, st⟩
  have R : Hid (OutStep w B g v (bs ++ putB 8 x) (.returned (.tuple #[])) w1) := ⟨v1, rfl, st⟩
  clear C st c0
  go_wp2
  go_end0
  exact R.out

set_option maxHeartbeats 1000000 in
theorem put_text (B g mb off : Nat) (v : Value) (bs : List UInt8) (cs : Array Value) (l : List UInt8) (w : World) (h : OutAt w B g v bs) (hm : Has w mb 33 cs) (hc : cs[off]? = some (.string (strOf l))) (hT : Tabs w) (hl : l.length ≤ 1000) (hb : bs.length ≤ 500000) :
    Calls Tryd.prog 28 #[.pointer (some ⟨g, 0, none⟩), .iface 83 (.pointer (some ⟨mb, off, none⟩))] w (PutStep w B g v bs (wrongOf l) (textB l)) := by
  have c0 := (hm.cell off).trans hc
  have C := Lib.hid (puttext_any B g v bs l w h hT hl (by omega))
  have a0 := Tryd.as_text_u8 ⟨mb, off, none⟩
  have a1 := Tryd.as_text_u16 ⟨mb, off, none⟩
  have a2 := Tryd.as_text_u32 ⟨mb, off, none⟩
  have a3 := Tryd.as_text_u64 ⟨mb, off, none⟩
  have a4 := Tryd.as_text_text ⟨mb, off, none⟩
  obtain ⟨er, her⟩ : ∃ er, er = wrongOf l := ⟨_, rfl⟩
  obtain ⟨mo, hmo⟩ : ∃ mo, mo = textB l := ⟨_, rfl⟩
  rw [← her, ← hmo] at C ⊢
  clear h hm hc her hmo
  go_enter Tryd.func28, Tryd.ntmps28
  go_wp2_with fail
  refine C.out.mono ?_
  intro e w1 st
  rcases st with ⟨hz, v1, rfl, st⟩ | ⟨hz, rfl, st⟩
  · have R : Hid (PutStep w B g v bs er mo (.returned (.tuple #[])) w1) := .inl ⟨hz, v1, rfl, st⟩
    clear C st hz
    go_wp2
    go_end0
    exact R.out
  · have R : Hid (PutStep w B g v bs er mo (.panicked [{ v := .iface 36 (.int .i64 er), recovered := false }]) w1) := .inr ⟨hz, rfl, st⟩
    clear C st hz
    go_wp2
    exact ⟨rfl, R.out⟩

set_option maxHeartbeats 1000000 in
theorem put_texts (B g mb off : Nat) (v : Value) (bs : List UInt8) (cs : Array Value) (L : List (List UInt8)) (lo hi : Nat) (w : World) (h : OutAt w B g v bs) (hm : Has w mb 33 cs) (hc : FAt w lo hi cs off (.texts L)) (hT : Tabs w) (hB : 1 < B ∧ 2 < B) (hhi : hi ≤ B) (hL : ∀ l ∈ L, l.length ≤ 1000) (hl : L.length ≤ 1000) (hb : bs.length ≤ 500000) :
    Calls Tryd.prog 28 #[.pointer (some ⟨g, 0, none⟩), .iface 86 (.pointer (some ⟨mb, off, none⟩))] w (PutStep w B g v bs (fErr (.texts L)) (fB (.texts L))) := by
  obtain ⟨x, hc, hx⟩ := hc
  have c0 := (hm.cell off).trans hc
  obtain ⟨A, c, hxe, _⟩ := id hx
  rw [hxe] at c0 hx
  clear hxe
  have C := Lib.hid (putlists_any B g v _ bs L lo hi w h hT hB hx hhi hL hl hb)
  have a0 := Tryd.as_texts_u8 ⟨mb, off, none⟩
  have a1 := Tryd.as_texts_u16 ⟨mb, off, none⟩
  have a2 := Tryd.as_texts_u32 ⟨mb, off, none⟩
  have a3 := Tryd.as_texts_u64 ⟨mb, off, none⟩
  have a4 := Tryd.as_texts_text ⟨mb, off, none⟩
  have a5 := Tryd.as_texts_texts ⟨mb, off, none⟩
  obtain ⟨er, her⟩ : ∃ er, er = fErr (.texts L) := ⟨_, rfl⟩
  obtain ⟨mo, hmo⟩ : ∃ mo, mo = fB (.texts L) := ⟨_, rfl⟩
  rw [← her, ← hmo] at C ⊢
  clear h hm hc her hmo
  go_enter Tryd.func28, Tryd.ntmps28
  go_wp2_with fail
  refine C.out.mono ?_
  intro e w1 st
  rcases st with ⟨hz, v1, rfl, st⟩ | ⟨hz, rfl, st⟩
  · have R : Hid (PutStep w B g v bs er mo (.returned (.tuple #[])) w1) := .inl ⟨hz, v1, rfl, st⟩
    clear C st hz
    go_wp2
    go_end0
    exact R.out
  · have R : Hid (PutStep w B g v bs er mo (.panicked [{ v := .iface 36 (.int .i64 er), recovered := false }]) w1) := .inr ⟨hz, rfl, st⟩
    clear C st hz
    go_wp2
    exact ⟨rfl, R.out⟩

set_option maxHeartbeats 1000000 in
theorem put_qid (B g mb off : Nat) (v : Value) (bs : List UInt8) (cs : Array Value) (q : Q3) (w : World) (h : OutAt w B g v bs) (hm : Has w mb 33 cs) (hc : cs[off]? = some (.int .u8 (q.t : Int)) ∧ cs[off + 1]? = some (.int .u32 (q.v : Int)) ∧ cs[off + 2]? = some (.int .u64 (q.p : Int))) (hq : q.Ok) (hb : bs.length ≤ 500000) :
    Calls Tryd.prog 28 #[.pointer (some ⟨g, 0, none⟩), .iface 84 (.pointer (some ⟨mb, off, none⟩))] w (OutStep w B g v (bs ++ qidB q)) := by
  have c0 := (hm.cell off).trans hc.1
  have c1 := (hm.cell (off + 1)).trans hc.2.1
  have c2 := (hm.cell (off + 2)).trans hc.2.2
  have C : Hid (Calls Tryd.prog 45 #[.pointer (some ⟨g, 0, none⟩), .agg #[.int .u8 (q.t : Int), .int .u32 (q.v : Int), .int .u64 (q.p : Int)]] w (OutStep w B g v (bs ++ qidB q))) := qidput_any B g v bs q w h hq (by omega)
  have a0 := Tryd.as_qid_u8 ⟨mb, off, none⟩
  have a1 := Tryd.as_qid_u16 ⟨mb, off, none⟩
  have a2 := Tryd.as_qid_u32 ⟨mb, off, none⟩
  have a3 := Tryd.as_qid_u64 ⟨mb, off, none⟩
  have a4 := Tryd.as_qid_text ⟨mb, off, none⟩
  have a5 := Tryd.as_qid_texts ⟨mb, off, none⟩
  have a6 := Tryd.as_qid_qid ⟨mb, off, none⟩
  clear h hm hc
  go_enter Tryd.func28, Tryd.ntmps28
  go_wp2_with fail
  refine C.out.mono ?_
  rintro e w1 ⟨v1, rfl, st⟩
  have R : Hid (OutStep w B g v (bs ++ qidB q) (.returned (.tuple #[])) w1) := ⟨v1, rfl, st⟩
  clear C st c0 c1 c2
  go_wp2
  go_end0
  exact R.out

set_option maxHeartbeats 1000000 in
theorem put_qids (B g mb off : Nat) (v : Value) (bs : List UInt8) (cs : Array Value) (L : List Q3) (lo hi : Nat) (w : World) (h : OutAt w B g v bs) (hm : Has w mb 33 cs) (hc : FAt w lo hi cs off (.qids L)) (hhi : hi ≤ B) (hL : ∀ q ∈ L, q.Ok) (hl : L.length ≤ 1000) (hb : bs.length ≤ 500000) :
    Calls Tryd.prog 28 #[.pointer (some ⟨g, 0, none⟩), .iface 87 (.pointer (some ⟨mb, off, none⟩))] w (PutStep w B g v bs (fErr (.qids L)) (fB (.qids L))) := by
  obtain ⟨x, hc, hx⟩ := hc
  have c0 := (hm.cell off).trans hc
  obtain ⟨A, c, hxe, _⟩ := id hx
  rw [hxe] at c0 hx
  clear hxe
  have C := Lib.hid (putlistq_any B g v _ bs L lo hi w h hx hhi hL hl hb)
  have a0 := Tryd.as_qids_u8 ⟨mb, off, none⟩
  have a1 := Tryd.as_qids_u16 ⟨mb, off, none⟩
  have a2 := Tryd.as_qids_u32 ⟨mb, off, none⟩
  have a3 := Tryd.as_qids_u64 ⟨mb, off, none⟩
  have a4 := Tryd.as_qids_text ⟨mb, off, none⟩
  have a5 := Tryd.as_qids_texts ⟨mb, off, none⟩
  have a6 := Tryd.as_qids_qid ⟨mb, off, none⟩
  have a7 := Tryd.as_qids_qids ⟨mb, off, none⟩
  obtain ⟨er, her⟩ : ∃ er, er = fErr (.qids L) := ⟨_, rfl⟩
  obtain ⟨mo, hmo⟩ : ∃ mo, mo = fB (.qids L) := ⟨_, rfl⟩
  rw [← her, ← hmo] at C ⊢
  clear h hm hc her hmo
  go_enter Tryd.func28, Tryd.ntmps28
  go_wp2_with fail
  refine C.out.mono ?_
  intro e w1 st
  rcases st with ⟨hz, v1, rfl, st⟩ | ⟨hz, rfl, st⟩
  · have R : Hid (PutStep w B g v bs er mo (.returned (.tuple #[])) w1) := .inl ⟨hz, v1, rfl, st⟩
    clear C st hz
    go_wp2
    go_end0
    exact R.out
  · have R : Hid (PutStep w B g v bs er mo (.panicked [{ v := .iface 36 (.int .i64 er), recovered := false }]) w1) := .inr ⟨hz, rfl, st⟩
    clear C st hz
    go_wp2
    exact ⟨rfl, R.out⟩

set_option maxHeartbeats 1000000 in
theorem put_data (B g mb off : Nat) (v : Value) (bs : List UInt8) (cs : Array Value) (b : List UInt8) (lo hi : Nat) (w : World) (h : OutAt w B g v bs) (hm : Has w mb 33 cs) (hc : FAt w lo hi cs off (.data b)) (hhi : hi ≤ B) (hl : b.length ≤ 100000) (hb : bs.length ≤ 500000) :
    Calls Tryd.prog 28 #[.pointer (some ⟨g, 0, none⟩), .iface 90 (.pointer (some ⟨mb, off, none⟩))] w (PutStep w B g v bs (fErr (.data b)) (fB (.data b))) := by
  obtain ⟨x, hc, hx⟩ := hc
  have c0 := (hm.cell off).trans hc
  obtain ⟨A, c, hxe, _⟩ := id hx
  rw [hxe] at c0 hx
  clear hxe
  have C := Lib.hid (putdata_any B g v _ bs b lo hi w h hx hhi hl (by omega))
  have a0 := Tryd.as_data_u8 ⟨mb, off, none⟩
  have a1 := Tryd.as_data_u16 ⟨mb, off, none⟩
  have a2 := Tryd.as_data_u32 ⟨mb, off, none⟩
  have a3 := Tryd.as_data_u64 ⟨mb, off, none⟩
  have a4 := Tryd.as_data_text ⟨mb, off, none⟩
  have a5 := Tryd.as_data_texts ⟨mb, off, none⟩
  have a6 := Tryd.as_data_qid ⟨mb, off, none⟩
  have a7 := Tryd.as_data_qids ⟨mb, off, none⟩
  have a8 := Tryd.as_data_data ⟨mb, off, none⟩
  obtain ⟨er, her⟩ : ∃ er, er = fErr (.data b) := ⟨_, rfl⟩
  obtain ⟨mo, hmo⟩ : ∃ mo, mo = fB (.data b) := ⟨_, rfl⟩
  rw [← her, ← hmo] at C ⊢
  clear h hm hc her hmo
  go_enter Tryd.func28, Tryd.ntmps28
  go_wp2_with fail
  refine C.out.mono ?_
  intro e w1 st
  rcases st with ⟨hz, v1, rfl, st⟩ | ⟨hz, rfl, st⟩
  · have R : Hid (PutStep w B g v bs er mo (.returned (.tuple #[])) w1) := .inl ⟨hz, v1, rfl, st⟩
    clear C st hz
    go_wp2
    go_end0
    exact R.out
  · have R : Hid (PutStep w B g v bs er mo (.panicked [{ v := .iface 36 (.int .i64 er), recovered := false }]) w1) := .inr ⟨hz, rfl, st⟩
    clear C st hz
    go_wp2
    exact ⟨rfl, R.out⟩

set_option maxHeartbeats 1000000 in
theorem put_stat (B g mb off : Nat) (v : Value) (bs : List UInt8) (cs : Array Value) (s : S11) (w : World) (h : OutAt w B g v bs) (hm : Has w mb 33 cs) (hc : ∀ j, j < 13 → cs[off + j]? = s.cells[j]?) (hT : Tabs w) (hn : s.Num) (hs : s.Few) (hb : bs.length ≤ 500000) :
    Calls Tryd.prog 28 #[.pointer (some ⟨g, 0, none⟩), .iface 91 (.pointer (some ⟨mb, off, none⟩))] w (PutStep w B g v bs (wrongL s.texts) (putB 2 s.size ++ recB s)) := by
  have d0 : w.cell? ⟨mb, off, none⟩ = some (.int .u16 (s.k : Int)) := (hm.cell off).trans (hc 0 (by omega))
  have d1 : w.cell? ⟨mb, off + 1, none⟩ = some (.int .u32 (s.d : Int)) := (hm.cell (off + 1)).trans (hc 1 (by omega))
  have d2 : w.cell? ⟨mb, off + 2, none⟩ = some (.int .u8 (s.q.t : Int)) := (hm.cell (off + 2)).trans (hc 2 (by omega))
  have d3 : w.cell? ⟨mb, off + 3, none⟩ = some (.int .u32 (s.q.v : Int)) := (hm.cell (off + 3)).trans (hc 3 (by omega))
  have d4 : w.cell? ⟨mb, off + 4, none⟩ = some (.int .u64 (s.q.p : Int)) := (hm.cell (off + 4)).trans (hc 4 (by omega))
  have d5 : w.cell? ⟨mb, off + 5, none⟩ = some (.int .u32 (s.m : Int)) := (hm.cell (off + 5)).trans (hc 5 (by omega))
  have d6 : w.cell? ⟨mb, off + 6, none⟩ = some (.int .u32 (s.a : Int)) := (hm.cell (off + 6)).trans (hc 6 (by omega))
  have d7 : w.cell? ⟨mb, off + 7, none⟩ = some (.int .u32 (s.c : Int)) := (hm.cell (off + 7)).trans (hc 7 (by omega))
  have d8 : w.cell? ⟨mb, off + 8, none⟩ = some (.int .u64 (s.l : Int)) := (hm.cell (off + 8)).trans (hc 8 (by omega))
  have d9 : w.cell? ⟨mb, off + 9, none⟩ = some (.string (strOf s.n)) := (hm.cell (off + 9)).trans (hc 9 (by omega))
  have d10 : w.cell? ⟨mb, off + 10, none⟩ = some (.string (strOf s.u)) := (hm.cell (off + 10)).trans (hc 10 (by omega))
  have d11 : w.cell? ⟨mb, off + 11, none⟩ = some (.string (strOf s.g)) := (hm.cell (off + 11)).trans (hc 11 (by omega))
  have d12 : w.cell? ⟨mb, off + 12, none⟩ = some (.string (strOf s.x)) := (hm.cell (off + 12)).trans (hc 12 (by omega))
  have C1 := putrecord_any B g v bs s w h hT hn hs (by omega)
  unfold S11.val S11.cells at C1
  have C := Lib.hid (C1)
  have a0 := Tryd.as_stat_u8 ⟨mb, off, none⟩
  have a1 := Tryd.as_stat_u16 ⟨mb, off, none⟩
  have a2 := Tryd.as_stat_u32 ⟨mb, off, none⟩
  have a3 := Tryd.as_stat_u64 ⟨mb, off, none⟩
  have a4 := Tryd.as_stat_text ⟨mb, off, none⟩
  have a5 := Tryd.as_stat_texts ⟨mb, off, none⟩
  have a6 := Tryd.as_stat_qid ⟨mb, off, none⟩
  have a7 := Tryd.as_stat_qids ⟨mb, off, none⟩
  have a8 := Tryd.as_stat_data ⟨mb, off, none⟩
  have a9 := Tryd.as_stat_stat ⟨mb, off, none⟩
  obtain ⟨er, her⟩ : ∃ er, er = wrongL s.texts := ⟨_, rfl⟩
  obtain ⟨mo, hmo⟩ : ∃ mo, mo = putB 2 s.size ++ recB s := ⟨_, rfl⟩
  rw [← her, ← hmo] at C ⊢
  clear h hm hc her hmo
  go_enter Tryd.func28, Tryd.ntmps28
  go_wp2_with fail
  refine C.out.mono ?_
  intro e w1 st
  rcases st with ⟨hz, v1, rfl, st⟩ | ⟨hz, rfl, st⟩
  · have R : Hid (PutStep w B g v bs er mo (.returned (.tuple #[])) w1) := .inl ⟨hz, v1, rfl, st⟩
    clear C st hz
    go_wp2
    go_end0
    exact R.out
  · have R : Hid (PutStep w B g v bs er mo (.panicked [{ v := .iface 36 (.int .i64 er), recovered := false }]) w1) := .inr ⟨hz, rfl, st⟩
    clear C st hz
    go_wp2
    exact ⟨rfl, R.out⟩

/-- The four widths. -/
theorem std_num {n : Nat} (h : K.std (.num n)) : n = 1 ∨ n = 2 ∨ n = 4 ∨ n = 8 := h
theorem putf_any (B g mb off lo hi : Nat) (v : Value) (bs : List UInt8) (cs : Array Value) (f : F) (w : World) (h : OutAt w B g v bs) (hm : Has w mb 33 cs) (hf : FAt w lo hi cs off f) (hk : f.kind.std) (hok : f.Ok) (hfew : f.Few)
    (hT : Tabs w) (hB : 1 < B ∧ 2 < B) (hhi : hi ≤ B) (hb : bs.length ≤ 500000) :
    Calls Tryd.prog 28 #[.pointer (some ⟨g, 0, none⟩), .iface f.kind.ptr (.pointer (some ⟨mb, off, none⟩))] w (PutStep w B g v bs (fErr f) (fB f)) := by
  cases f with
  | num n x =>
    obtain ⟨_, _, hx⟩ := hok
    rcases std_num hk with rfl | rfl | rfl | rfl
    · exact (put_u8 B g mb off v bs cs x w h hm hf hx hb).mono fun e w' st => .inl ⟨rfl, st⟩
    · exact (put_u16 B g mb off v bs cs x w h hm hf hx hb).mono fun e w' st => .inl ⟨rfl, st⟩
    · exact (put_u32 B g mb off v bs cs x w h hm hf hx hb).mono fun e w' st => .inl ⟨rfl, st⟩
    · exact (put_u64 B g mb off v bs cs x w h hm hf hx hb).mono fun e w' st => .inl ⟨rfl, st⟩
  | text l => exact put_text B g mb off v bs cs l w h hm hf hT hfew hb
  | texts L => exact put_texts B g mb off v bs cs L lo hi w h hm hf hT hB hhi hfew.2 hfew.1 hb
  | qid q => exact (put_qid B g mb off v bs cs q w h hm hf hok hb).mono fun e w' st => .inl ⟨rfl, st⟩
  | qids L => exact put_qids B g mb off v bs cs L lo hi w h hm hf hhi hok hfew hb
  | data b => exact put_data B g mb off v bs cs b lo hi w h hm hf hhi hfew hb
  | stat s => exact put_stat B g mb off v bs cs s w h hm hf hT hok hfew hb
end Go.Proofs.YtepiifbleoimkaaDoor
