/-
  Package bitmap: Free, Bytes.
-/
import Derived.Test.YtaenobgpbphlfaaDoorMapF
namespace Go.Proofs.YtaenobgpbphlfaaDoor
open Go.RowKit Go.Lib
set_option maxRecDepth 100000

/-- How many of the first N places are taken. -/
def takenTo (L : List Bool) (N : Nat) : Nat := cnt (fun i => L.getD i false) N
section
variable (g gw cw : Nat) (L : List Bool) (w : World) (h : Mp w g gw cw L)
include h
set_option maxHeartbeats 1000000 in
theorem free_any9 : Calls Tryd.prog 18 #[.pointer (some ⟨g, 0, none⟩)] w fun e w' => e = .returned (.int .i64 (freeN L : Int)) ∧ w = w' := by
  obtain ⟨ws, h⟩ := h
  have c0 := h.c0
  have c1 := h.c1
  have HH := Lib.hid h
  have hm := h.most
  have hl := h.bm.len
  obtain ⟨m, hmm⟩ : ∃ m, m = ws.length := ⟨_, rfl⟩
  rw [← hmm] at c1 hl
  have hm2 : m ≤ 1024 := by omega
  have HM := Lib.hid hmm
  have HE : Hid ((L.length : Int) - (takenTo L (64 * m) : Int) = (freeN L : Int)) := Lib.hid (by
    have h1 := freeN_eq L
    have h2 := pops_all h.bm
    rw [← hmm] at h2
    unfold takenTo
    rw [h2]
    omega)
  obtain ⟨N, hN⟩ : ∃ N, N = L.length := ⟨_, rfl⟩
  rw [← hN] at c0 hm HE
  have I0 : Hid ((N : Int) = (N : Int) - (takenTo L (64 * 0) : Int)) := Lib.hid (by show (N : Int) = (N : Int) - ((0 : Nat) : Int); omega)
  clear h hmm hl hN
  go_enter Tryd.func18, Tryd.ntmps18
  go_wp2
  go_loop [3, 15] (fun s i => ∃ (k : Nat) (z : Int), k ≤ m ∧ i = .int .i64 (k : Int) ∧ s = .int .i64 z ∧ Hid (z = (N : Int) - (takenTo L (64 * k) : Int))) (fun _ i => m - (intOf i).toNat)
  case atStart => exact ⟨0, _, Nat.zero_le _, rfl, rfl, I0⟩
  case round =>
    obtain ⟨k, z, hk, rfl, rfl, hz⟩ := hrel
    clear I0
    by_cases hlt : k < m
    · have c2 := HH.out.row.cell (i := k) (by rw [← HM.out]; exact hlt)
      have hx := HH.out.bm.lt k
      have hp := pops HH.out.bm k
      have C := Lib.hid (ones_any (ws.getD k 0) hx w)
      have b1 : takenTo L (64 * k) ≤ 64 * k := cnt_le _ _
      have b2 := pop_le (ws.getD k 0)
      have HZ : Hid (∀ p : Nat, p = pop64 (ws.getD k 0) → z - (p : Int) = (N : Int) - (takenTo L (64 * (k + 1)) : Int)) := Lib.hid (fun p hp' => by
        have := hz.out
        show z - (p : Int) = (N : Int) - ((cnt (fun i => L.getD i false) (64 * (k + 1)) : Nat) : Int)
        rw [hp, hp', this]
        show (N : Int) - ((cnt (fun i => L.getD i false) (64 * k) : Nat) : Int) - _ = _
        omega)
      have bz : -100000 ≤ z ∧ z ≤ 100000 := by have := hz.out; omega
      obtain ⟨bz1, bz2⟩ := bz
      obtain ⟨p, hpe⟩ : ∃ p, p = pop64 (ws.getD k 0) := ⟨_, rfl⟩
      have HZ2 := Lib.hid (HZ.out p hpe)
      rw [← hpe] at C b2
      generalize ws.getD k 0 = x at *
      clear hp hz hpe HZ b1
      go_wp2_with fail
      refine C.out.mono ?_
      rintro e w' ⟨rfl, rfl⟩
      go_wp2
      go_round
      case rel => exact ⟨k + 1, _, by omega, by go_num, rfl, HZ2⟩
      case measure => simp [intOf]; omega
    · have hje : k = m := by omega
      have R : Hid (z = (freeN L : Int)) := Lib.hid (by
        have := hz.out
        rw [hje] at this
        exact this.trans HE.out)
      have d1 : decide ((k : Int) < (m : Int)) = false := decide_eq_false (by omega)
      clear hje hz
      go_wp2
      go_ret
      exact ⟨congrArg (fun x => Ending.returned (.int .i64 x)) R.out, rfl⟩
end

/-! ### bytes -/
theorem b8_of9 (v : Nat) : b8 (UInt8.ofNat v) = .int .u8 ((v : Int) % 256) := by simp [b8, UInt8.toNat_ofNat']
theorem Tryd.info8m : (Tryd.prog.info? 5).map (fun i => (i.zero, i.size, i.bytes)) = some (some (.int .u8 0), 1, 1) := by kernel_rfl
theorem b8s_rep9 (n : Nat) (c : UInt8) : b8s (List.replicate n c) = List.replicate n (b8 c) := by simp [b8s]
theorem b8s_set9 (l : List UInt8) (i : Nat) (c : UInt8) : b8s (l.set i c) = (b8s l).set i (b8 c) := by simp [b8s, List.map_set]
theorem made_zero9 (n : Nat) : (madeCells (Value.int .u8 0).cells (n * 1)).toList = b8s (List.replicate n 0) := by
  rw [b8s_rep9, Nat.mul_one]
  apply List.ext_getElem?
  intro j
  by_cases hj : j < n
  · simp [madeCells, hj, Nat.mod_one, Value.cells, b8]
  · simp [madeCells, hj]
/-- Bytes of zero, made. -/
theorem make_bytes9 (n : Nat) (hn : n ≤ 1000000) (w : World) : ∃ w', (Instr.makeSlice 39 (.int .i64 (n : Int)) (.int .i64 (n : Int))).run Tryd.prog w = .ok (.slice (some ⟨w.heap.size, 0, none⟩) n n) w' ∧
    w'.ownsRow w.heap.size 5 1 (.slice (some ⟨w.heap.size, 0, none⟩) n n) n (b8s (List.replicate n 0)) ∧ Calm w w' ∧ w.heap.size < w'.heap.size := by
  obtain ⟨i0, hi0, hz0, hz1, hz2⟩ := info_parts Tryd.info8m
  obtain ⟨w1, hmk, o1, g1⟩ := run_make_full (P := Tryd.prog) w w.heap.size 39 5 i0 (.int .u8 0) 1 Tryd.underlying39 hi0 hz0 hz1 .i64 .i64 n (by rw [hz2]; omega) (by simp [maxLen]; omega) (Nat.le_refl _)
  rw [made_zero9] at o1
  exact ⟨w1, hmk, o1, (Only.of_grown g1).mono (fun i _ h => by cases h), (o1.lt _ rfl).2⟩
/-- The first k bytes are told. -/
def partB (ws : List Nat) (n k : Nat) : List UInt8 := (List.range ((n + 7) / 8)).map fun j => if j < k then wbyte ws j else 0
theorem partB_length (ws : List Nat) (n k : Nat) : (partB ws n k).length = (n + 7) / 8 := by simp [partB]
theorem partB_zero (ws : List Nat) (n : Nat) : partB ws n 0 = List.replicate ((n + 7) / 8) 0 := by
  apply List.ext_getElem (by simp [partB])
  intro i h1 h2
  simp [partB]
theorem partB_step (ws : List Nat) (n k : Nat) : (partB ws n k).set k (wbyte ws k) = partB ws n (k + 1) := by
  apply List.ext_getElem (by simp [partB])
  intro i h1 h2
  rw [List.getElem_set]
  by_cases e : k = i
  · subst e
    simp [partB]
  · rw [if_neg e]
    simp only [partB, List.getElem_map, List.getElem_range]
    by_cases h : i < k
    · rw [if_pos h, if_pos (by omega)]
    · rw [if_neg h, if_neg (by omega)]
theorem partB_all (ws : List Nat) (n : Nat) : partB ws n ((n + 7) / 8) = wbytes ws n := by
  apply List.ext_getElem (by simp [partB, wbytes])
  intro i h1 h2
  have : i < (n + 7) / 8 := by simpa [partB] using h1
  simp [partB, wbytes, this]
def Bytes9 (w : World) (L : List Bool) (v : Value) (w' : World) : Prop :=
  ∃ bs, Tells9 L bs ∧ w'.ownsRow w.heap.size 5 1 v bs.length (b8s bs) ∧ Calm w w'
/-- While bytes are being told. -/
def TInv (w : World) (G m : Nat) (bs : List UInt8) (wr : World) : Prop := wr.ownsRow w.heap.size 5 1 (.slice (some ⟨G, 0, none⟩) m m) m (b8s bs) ∧ Calm w wr
theorem TInv.step {w wr : World} {G m : Nat} {bs : List UInt8} (h : TInv w G m bs wr) (hG : w.heap.size ≤ G) (i : Nat) (c : UInt8) : TInv w G m (bs.set i c) (wr.setCell ⟨G, i, none⟩ (b8 c)) := by
  refine ⟨?_, Only.setCell h.2 (p := ⟨G, i, none⟩) (fun hp => absurd hp (by show ¬ G < w.heap.size; omega)) _⟩
  rw [b8s_set9]
  exact (World.ownsRow.stored h.1 i (b8 c)).1
set_option maxHeartbeats 1000000 in
theorem bytes_any9 (g gw cw : Nat) (L : List Bool) (w : World) (h : Mp w g gw cw L) : Calls Tryd.prog 16 #[.pointer (some ⟨g, 0, none⟩)] w fun e w' => ∃ v, e = .returned v ∧ Bytes9 w L v w' := by
  obtain ⟨ws, h⟩ := h
  have c0 := h.c0
  have hm := h.most
  have HH := Lib.hid h
  obtain ⟨N, hN⟩ : ∃ N, N = L.length := ⟨_, rfl⟩
  rw [← hN] at c0 hm
  have C := Lib.hid (upwards_any N 8 (by omega) (by decide) (by decide) w)
  obtain ⟨m, hmm⟩ : ∃ m, m = (N + 7) / 8 := ⟨_, rfl⟩
  have e : (N + 8 - 1) / 8 = m := by omega
  rw [e] at C
  obtain ⟨w1, hmk, o1, k1, l1⟩ := make_bytes9 m (by omega) w
  have I0 : Hid (TInv w w.heap.size m (partB ws N 0) w1) := Lib.hid (by
    rw [partB_zero, ← hmm]
    exact ⟨o1, k1⟩)
  have HL : Hid (∀ wr, Calm w wr → ∀ k, k < m → wr.cell? ⟨g, 1, none⟩ = some (.slice (some ⟨gw, 0, none⟩) ws.length cw) ∧ wr.cell? ⟨gw, k / 8, none⟩ = some (.int .u64 (ws.getD (k / 8) 0 : Int)) ∧ k / 8 < ws.length) := Lib.hid (fun wr k k' hk' => by
    have hh := HH.out.only k (fun h => h) (fun h => h)
    have hl : k' / 8 < ws.length := by rw [hh.bm.len, ← hN]; omega
    exact ⟨hh.c1, hh.row.cell hl, hl⟩)
  have HE : Hid (∀ wr, TInv w w.heap.size m (partB ws N m) wr → Bytes9 w L (.slice (some ⟨w.heap.size, 0, none⟩) m m) wr) := Lib.hid (fun wr t => by
    rw [hmm, partB_all, ← hmm, hN] at t
    refine ⟨_, HH.out.bm.tells, ?_, t.2⟩
    have : (wbytes ws L.length).length = m := by rw [hmm, hN]; simp [wbytes]
    rw [this]
    exact t.1)
  have hm2 : m ≤ 8192 := by omega
  have HP : Hid (∀ k, (partB ws N k).length = m) := Lib.hid (fun k => by rw [partB_length, hmm])
  clear h hN hmm e o1 k1
  go_enter Tryd.func16, Tryd.ntmps16
  go_wp2_with fail
  refine C.out.mono ?_
  rintro e w' ⟨rfl, rfl⟩
  clear C
  go_wp2
  go_loopw [13] (fun i wr => ∃ k : Nat, k ≤ m ∧ i = .int .i64 (k : Int) ∧ Hid (TInv w w.heap.size m (partB ws N k) wr)) (fun i _ => m - (intOf i).toNat)
  case atStart => exact ⟨0, Nat.zero_le _, rfl, I0⟩
  case round =>
    obtain ⟨k, hk, rfl, hrel⟩ := hrel
    clear I0
    by_cases hlt : k < m
    · obtain ⟨q1, q2⟩ := hrel.out
      obtain ⟨c1, c2, hl⟩ := HL.out wr q2 k hlt
      have fz := World.ownsRow.frozenAt q1 k
      have hcell := World.ownsRow.cellAt q1 k (by omega)
      obtain ⟨u, hu⟩ : ∃ u, (b8s (partB ws N k))[k]? = some u := ⟨_, List.getElem?_eq_getElem (by rw [b8s_length, HP.out]; exact hlt)⟩
      rw [hu] at hcell
      have R := Lib.hid (hrel.out.step (Nat.le_refl _) k (wbyte ws k))
      rw [partB_step] at R
      have eb : b8 (wbyte ws k) = .int .u8 ((ws.getD (k / 8) 0 : Int) / 2 ^ (k % 8 * 8) % 256) := by
        unfold wbyte
        rw [b8_of9]
        simp
      rw [eb] at R
      have hx := HH.out.bm.lt (k / 8)
      generalize ws.getD (k / 8) 0 = x at *
      clear q1 q2 hrel hu eb
      go_wp2
      go_roundw
      case rel => exact ⟨k + 1, by omega, by go_num, R⟩
      case measure => simp [intOf]; omega
    · have hje : k = m := by omega
      have R : Hid (Bytes9 w L (.slice (some ⟨w.heap.size, 0, none⟩) m m) wr) := Lib.hid (HE.out wr (by
        have := hrel.out
        rwa [hje] at this))
      have d1 : decide ((k : Int) < (m : Int)) = false := decide_eq_false (by omega)
      clear hje hrel
      go_wp2
      go_ret
      exact ⟨_, rfl, R.out⟩
end Go.Proofs.YtaenobgpbphlfaaDoor
