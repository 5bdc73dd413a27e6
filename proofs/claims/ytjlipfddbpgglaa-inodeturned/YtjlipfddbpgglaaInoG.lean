/-
  Package inode: Decode; Blocks.
-/
import Derived.Test.YtjlipfddbpgglaaInoF
namespace Go.Proofs.Ytjlipfddbpgglaa
open Go.RowKit Go.Lib
set_option maxRecDepth 100000

open Classical in
/-- What Decode answers. -/
noncomputable def decI (bs : List UInt8) : I14 := if isI bs then readI bs else I14.zero
open Classical in
noncomputable def decJ (bs : List UInt8) : Int := if isI bs then 0 else 2
theorem Try.enterIDecode1 : ∀ args w, (callFunc 20 args).run Try.prog w = .ok (.enter 20 args) w := enters_of Try.func20 (by kernel_rfl) rfl
set_option maxHeartbeats 1000000 in
theorem idecode1_any (v : Value) (bs : List UInt8) (lo hi p gb : Nat) (w : World) (hv : SlIs w lo hi v bs) (hhi : hi ≤ w.heap.size) (hl : bs.length ≤ 140737488355328) (hp : Has w p 28 #[v]) (hg : Has w gb 26 I14.zero.cells) :
    Calls Try.prog 20 #[.pointer (some ⟨p, 0, none⟩), .pointer (some ⟨gb, 0, none⟩)] w fun e w' => e = endsIn (decJ bs) ∧ Only (fun i => i = gb) w w' ∧ Has w' gb 26 (decI bs).cells := by
  have C := Lib.hid (iread_any v bs lo hi w hv hhi hl)
  obtain ⟨A, c, rfl, _⟩ := hv
  have c0 := hp.cell 0
  simp only [List.getElem?_toArray, List.getElem?_cons_zero] at c0
  have HG := Lib.hid hg
  by_cases h : isI bs
  · have e1 : decJ bs = 0 := if_pos h
    have e2 : decI bs = readI bs := if_pos h
    rw [ireadEnd_yes h] at C
    rw [e1, e2, endsIn_yes]
    have HZ := Lib.hid (readI bs).cells_size
    have HO := Lib.hid (readI bs).cells_one
    generalize (readI bs).cells = cs at *
    have K : Hid (∀ w1, Still w w1 → Has w1 gb 26 I14.zero.cells ∧ (Only (fun i => i = gb) w (w1.setRow gb cs) ∧ Has (w1.setRow gb cs) gb 26 cs)) := Lib.hid (fun w1 k => by
      have hg1 := k.has HG.out
      have k' : Only (fun i => i = gb) w w1 := k.mono (fun _ _ h => h.elim)
      exact ⟨hg1, k'.setRow (fun _ => rfl) cs, hg1.setRow cs⟩)
    clear h e1 e2 hp hg HG
    go_enter Try.func20, Try.ntmps20
    go_wp2_with fail
    refine C.out.mono ?_
    rintro e w1 ⟨rfl, k1⟩
    obtain ⟨h1, h2⟩ := K.out w1 k1
    have R := Lib.hid h2
    have H1 := Lib.hid h1
    clear k1 h1 h2 C K c0
    go_wp2_with (first
      | (refine store_struct Try.inoSize gb cs (.tmp 1) (.tmp 3) rfl rfl rfl rfl H1.out rfl HZ.out HO.out ?_)
      | fail)
    go_end0
    exact ⟨rfl, R.out⟩
  · have e1 : decJ bs = 2 := if_neg h
    have e2 : decI bs = I14.zero := if_neg h
    rw [ireadEnd_no h] at C
    rw [e1, e2, endsIn_no (by decide)]
    have K : Hid (∀ w1, Still w w1 → Only (fun i => i = gb) w w1 ∧ Has w1 gb 26 I14.zero.cells) := Lib.hid (fun w1 k => ⟨k.mono (fun _ _ h => h.elim), k.has hg⟩)
    clear h e1 e2 hp hg HG
    go_enter Try.func20, Try.ntmps20
    go_wp2_with fail
    refine C.out.mono ?_
    rintro e w1 ⟨rfl, k1⟩
    have R := Lib.hid (K.out w1 k1)
    clear k1 C K c0
    go_wp2
    exact ⟨rfl, rfl, R.out⟩

set_option maxHeartbeats 1000000 in
theorem idecode_any (v : Value) (bs : List UInt8) (lo hi : Nat) (w : World) (hv : SlIs w lo hi v bs) (hhi : hi ≤ w.heap.size) (hl : bs.length ≤ 140737488355328) :
    Calls Try.prog 12 #[v] w fun e w' => e = .returned (.tuple #[.agg (decI bs).cells, .int .i64 (decJ bs)]) ∧ Still w w' := by
  obtain ⟨A, c, rfl, _⟩ := id hv
  obtain ⟨W, hW⟩ : ∃ W, W = ((w.alloc (.cells #[.slice A bs.length c] 28)).alloc (.cells I14.zero.cells 26)).alloc (.cells I14.zero.cells 26) := ⟨_, rfl⟩
  have sW : W.heap.size = w.heap.size + 1 + 1 + 1 := by rw [hW]; simp
  have kW : Still w (W.alloc errBox) := by rw [hW]; exact ((((Still.refl w).alloc _).alloc _).alloc _).alloc _
  have hp : Has (W.alloc errBox) w.heap.size 28 #[.slice A bs.length c] := by rw [hW]; exact (((Has.new w 28 _).alloc _).alloc _).alloc _
  have hr : Has (W.alloc errBox) (w.heap.size + 1) 26 I14.zero.cells := by
    rw [hW]
    have := (((Has.new (w.alloc (.cells #[.slice A bs.length c] 28)) 26 I14.zero.cells).alloc (.cells I14.zero.cells 26)).alloc errBox)
    simpa using this
  have hg : Has (W.alloc errBox) (w.heap.size + 1 + 1) 26 I14.zero.cells := by
    rw [hW]
    have := ((Has.new ((w.alloc (.cells #[.slice A bs.length c] 28)).alloc (.cells I14.zero.cells 26)) 26 I14.zero.cells).alloc errBox)
    simpa using this
  have sE : (W.alloc errBox).heap.size = W.heap.size + 1 := by simp
  have C := Lib.hid (caught_any 20 _ Try.enterIDecode1 W (decJ bs) (fun w' => Only (fun i => i = w.heap.size + 1 + 1) (W.alloc errBox) w' ∧ Has w' (w.heap.size + 1 + 1) 26 (decI bs).cells)
    ((idecode1_any (.slice A bs.length c) bs lo hi _ _ _ (hv.only kW hhi (fun _ _ _ h => h)) (by omega) hl hp hg).mono fun e w' hh => ⟨hh.1, (Has.new W 29 #[.int .i64 0]).only hh.2.1 (by omega), hh.2⟩))
  have R : Hid (∀ w1 w2, (Only (fun i => i = w.heap.size + 1 + 1) (W.alloc errBox) w1 ∧ Has w1 (w.heap.size + 1 + 1) 26 (decI bs).cells) → Only (fun i => i = W.heap.size) w1 w2 → Has w2 (w.heap.size + 1) 26 I14.zero.cells ∧ Has w2 (w.heap.size + 1 + 1) 26 (decI bs).cells ∧ Still w w2) := Lib.hid (fun w1 w2 h1 k2 => by
    obtain ⟨k1, hb⟩ := h1
    have hs := kW.size
    have hs1 := k1.size
    exact ⟨(hr.only k1 (by omega)).only k2 (by omega), hb.only k2 (by omega), Only.trans (Only.trans kW k1 (fun i hi e => by omega)) k2 (fun i hi e => by omega)⟩)
  have HZ := Lib.hid (decI bs).cells_size
  have HO := Lib.hid (decI bs).cells_one
  have Z0 : I14.zero.cells = #[.int .u32 0, .int .u32 0, .int .u32 0, .int .u16 0, .int .u32 0, .int .u32 0, .int .u32 0, .int .u32 0, .int .u32 0, .int .u32 0, .int .u32 0, .int .u32 0, .int .u32 0, .int .u32 0] := rfl
  generalize decJ bs = r at *
  generalize (decI bs).cells = cs at *
  rw [hW] at C R
  rw [Z0] at C R
  clear hp hr hg kW sW sE hW hv Z0
  go_enter Try.func12, Try.ntmps12
  go_wp2_with fail
  refine C.out.mono ?_
  rintro e w2 ⟨rfl, w1, h1, k2⟩
  obtain ⟨hr, hg, ks⟩ := R.out w1 w2 h1 k2
  have HR := Lib.hid hr
  have HG := Lib.hid hg
  have KS := Lib.hid ks
  clear h1 k2 hr hg ks R C
  go_wp2_with (first
    | (refine load_struct Try.underlying26 rfl Try.inoSize (w.heap.size + 1 + 1) cs (.tmp 4) rfl rfl rfl HG.out HZ.out ?_)
    | (refine store_struct Try.inoSize (w.heap.size + 1) cs (.tmp 2) (.tmp 8) rfl rfl rfl rfl HR.out rfl HZ.out HO.out ?_)
    | fail)
  refine bodyPost_ret (results_cell_row1 rfl _ _ (w.heap.size + 1) 26 _ (0, 0) _ rfl (HR.out.setRow cs) Try.underlying26 rfl (by rw [HZ.out]; exact Try.inoSize)) rfl ?_
  exact ⟨rfl, Only.setRow KS.out (fun h => by omega) cs⟩

/-! ### Blocks -/
/-- How many blocks of b bytes s bytes take. -/
def blocksN (s b : Nat) : Nat := (s + b - 1) / b
theorem blocks_none (s : Nat) (b : Int) (hb : b < 64 ∨ 1024 < b) (w : World) : Calls Try.prog 14 #[.int .u32 (s : Int), .int .i64 b] w fun e w' => e = .returned (.int .i64 0) ∧ w = w' := by
  by_cases h1 : b < 64
  · have d1 : decide (b < 64) = true := decide_eq_true h1
    go_enter Try.func14, Try.ntmps14
    go_wp2
    go_ret
    exact ⟨rfl, rfl⟩
  · have d1 : decide (b < 64) = false := decide_eq_false h1
    have h2 : 1024 < b := by omega
    have d2 : decide (1024 < b) = true := decide_eq_true h2
    go_enter Try.func14, Try.ntmps14
    go_wp2
    go_ret
    exact ⟨rfl, rfl⟩
theorem blocks_more (s b : Nat) (h1 : 64 ≤ b) (h : 0 < s % b) : s / b + 1 = blocksN s b := by
  unfold blocksN
  have hm := Nat.mod_lt s (show 0 < b by omega)
  have e : s + b - 1 = (s % b - 1) + b * (s / b + 1) := by
    have := Nat.mod_add_div s b
    rw [Nat.mul_add]
    omega
  have e2 : (s % b - 1) / b = 0 := Nat.div_eq_of_lt (by omega)
  rw [e, Nat.add_mul_div_left _ _ (by omega), e2, Nat.zero_add]
theorem blocks_even (s b : Nat) (h1 : 64 ≤ b) (h : ¬ 0 < s % b) : s / b = blocksN s b := by
  unfold blocksN
  have e : s + b - 1 = (b - 1) + b * (s / b) := by
    have := Nat.mod_add_div s b
    omega
  have e2 : (b - 1) / b = 0 := Nat.div_eq_of_lt (by omega)
  rw [e, Nat.add_mul_div_left _ _ (by omega), e2, Nat.zero_add]
set_option maxHeartbeats 1000000 in
theorem blocks_some (s b : Nat) (hs : s < 4294967296) (h1 : 64 ≤ b) (h2 : b ≤ 1024) (w : World) : Calls Try.prog 14 #[.int .u32 (s : Int), .int .i64 (b : Int)] w fun e w' => e = .returned (.int .i64 (blocksN s b : Int)) ∧ w = w' := by
  have d1 : decide ((b : Int) < 64) = false := decide_eq_false (by omega)
  have d2 : decide (1024 < (b : Int)) = false := decide_eq_false (by omega)
  have hw : IntKind.u32.wrap (b : Int) = (b : Int) := IntWalk.u32_in _ (by omega)
  have n0 : ¬ ((b : Int) = 0) := by omega
  have hq : s / b < 4294967296 - 1 := by
    have : s / b ≤ s / 64 := Nat.div_le_div_left h1 (by omega)
    omega
  have D : Hid ((s : Int) / (b : Int) = ((s / b : Nat) : Int)) := Lib.hid (Int.natCast_ediv s b).symm
  have M : Hid ((s : Int) % (b : Int) = ((s % b : Nat) : Int)) := Lib.hid (Int.natCast_emod s b).symm
  have EV := Lib.hid (blocks_even s b h1)
  have MO := Lib.hid (blocks_more s b h1)
  generalize blocksN s b = N at *
  go_enter Try.func14, Try.ntmps14
  go_wp2
  all_goals go_ret
  all_goals
    refine ⟨congrArg (fun x => Ending.returned (.int .i64 x)) ?_, rfl⟩
    have D := D.out
    have M := M.out
    have EV := EV.out
    have MO := MO.out
    generalize (s : Int) / (b : Int) = X at *
    generalize (s : Int) % (b : Int) = Y at *
    generalize s / b = x at *
    generalize s % b = y at *
    omega
end Go.Proofs.Ytjlipfddbpgglaa
