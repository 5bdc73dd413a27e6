/-
  Package num: what adds to an Out: Raw, Put.
-/
import Derived.Test.YtkhgaolaaiekjaaDoorNumB
import Derived.Test.YtkhgaolaaiekjaaDoorPutLe
import Derived.Deep.RegionLaw
namespace Go.Proofs.YtkhgaolaaiekjaaDoor
open Go.RowKit

/-- An append onto an Out's list, then the store of the new list. -/
theorem out_grown {w w1 : World} {B g : Nat} {v v' : Value} {bs bs' : List UInt8} (h : OutAt w B g v bs) (h1 : w1.ownsRow B 5 1 v' bs'.length (b8s bs')) (h2 : w.grownBy w1 v.ownBlock)
    (h3 : v'.ownBlock = v.ownBlock ∨ v'.ownBlock = some w.heap.size) :
    Has w1 g 61 #[v] ∧ OutStep w B g v bs' (.returned (.tuple #[])) (w1.setCell ⟨g, 0, none⟩ v') := by
  have hne := owns_ne h.own h.has (by decide)
  have k1 := Only.of_grown h2
  have hh : Has w1 g 61 #[v] := h.has.only k1 hne
  refine ⟨hh, v', rfl, ⟨hh.set 0 v', ?_, h.low⟩, ?_, ?_⟩
  · refine owns_only h1 ((Only.refl (fun i => i = g) w1).setCell (p := ⟨g, 0, none⟩) (fun _ => rfl) v') ?_
    rintro i hi rfl
    exact owns_ne h1 hh (by decide) hi.symm
  · refine (k1.mono (T := Foot g v) fun i _ hi => .inr hi.symm).setCell (p := ⟨g, 0, none⟩) (fun _ => .inl rfl) v'
  · intro i hi
    rcases h3 with h3 | h3
    · exact .inl (h3 ▸ hi)
    · right
      rw [h3] at hi
      injection hi with hi
      omega

set_option maxHeartbeats 400000 in
theorem outraw_any (B g : Nat) (v x : Value) (bs xs : List UInt8) (lo hi : Nat) (w : World) (h : OutAt w B g v bs) (hx : SlIs w lo hi x xs) (hl : (bs ++ xs).length ≤ 140737488355328) :
    Calls Tryd.prog 35 #[.pointer (some ⟨g, 0, none⟩), x] w (OutStep w B g v (bs ++ xs)) := by
  obtain ⟨i0, hi0, hz0, hz1, hz2⟩ := info_parts Tryd.info8
  have hc := h.has.cell 0
  simp at hc
  have hb : B ≤ w.heap.size := Nat.le_trans h.low (Nat.le_of_lt h.has.lt)
  have HO := Lib.hid h
  have HX := Lib.hid hx
  have HL := Lib.hid hl
  clear h hx hl
  go_enter Tryd.func35, Tryd.ntmps35
  go_wp2_with (at_builtin; refine wpList_append_bytes _ rfl (.tmp 8) (.tmp 9) 25 rfl B 5 i0 Tryd.underlying25 hi0 hz0 hz1 hz2 _ bs xs rfl HO.out.own lo hi _ rfl HX.out HL.out hb ?_)
  intro v' w1 h1 h2 h3
  have h1 : w1.ownsRow B 5 1 v' (bs ++ xs).length (b8s (bs ++ xs)) := by simpa using h1
  obtain ⟨r1, r2⟩ := out_grown HO.out h1 h2 h3
  obtain ⟨A, c, rfl, _⟩ := owns_slice h1
  have R := Lib.hid r2
  have hc1 := r1.cell 0
  have hf1 := r1.frozen 0
  simp at hc1
  clear h1 h2 h3 r1 r2 HO HX HL hc hb
  go_wp2
  go_end0
  have r := R.out
  rw [List.length_append] at r
  exact r

set_option maxHeartbeats 400000 in
theorem put_no (B g : Nat) (v : Value) (bs : List UInt8) (n x : Int) (w : World) (h : OutAt w B g v bs) (hn : n < 1 ∨ 8 < n) :
    Calls Tryd.prog 34 #[.pointer (some ⟨g, 0, none⟩), .int .i64 n, .int .u64 x] w (OutStep w B g v bs) := by
  have R : Hid (OutStep w B g v bs (.returned (.tuple #[])) w) := ⟨v, rfl, h, Only.refl _ _, fun i hi => .inl hi⟩
  have H := Lib.hid hn
  clear h hn
  go_enter Tryd.func34, Tryd.ntmps34
  go_wp2_with (go_at_call 49; refine (width_no n w H.out).mono ?_; rintro e w' ⟨rfl, rfl⟩)
  first | go_end0 | refine bodyPost_ret (results_none rfl _ _ _) rfl ?_
  exact R.out

/-- One byte of x as the machine reckons it: a shift, then the cut to eight bits. -/
theorem byte_of (x k : Nat) (hk : k < 8) : ∃ (X : Int) (c : UInt8), Op.shift .shr .u64 (x : Int) .i64 (IntKind.i64.wrap (8 * (k : Int))) = pure (.int .u64 X) ∧ IntKind.u8.wrap X = (c.toNat : Int) ∧ UInt8.ofNat (x >>> (8 * k)) = c := by
  refine ⟨((x >>> (8 * k) : Nat) : Int), _, ?_, ?_, rfl⟩
  · rw [IntWalk.i64_in _ (by omega), shift_shr .u64 .i64 _ _ (by omega) (by simp [IntKind.bits]; omega)]
    have h1 : (8 * (k : Int)).toNat = 8 * k := by omega
    rw [h1, Nat.shiftRight_eq_div_pow]
    simp
  · rw [IntKind.wrap_u8']
    simp [UInt8.toNat_ofNat']

def PutInv (B g : Nat) (v : Value) (bs : List UInt8) (x : Nat) (w : World) (k : Nat) (wr : World) : Prop :=
  ∃ v', OutAt wr B g v' (bs ++ putB k x) ∧ Only (Foot g v) w wr ∧ ∀ i, v'.ownBlock = some i → v.ownBlock = some i ∨ w.heap.size ≤ i

theorem put_step {B g : Nat} {v v1 : Value} {bs : List UInt8} {x k : Nat} {w wr w1 : World} {o : Obj} {A : Option Addr} {c gg cap : Nat} {cb : UInt8}
    (hO : OutAt wr B g v1 (bs ++ putB k x)) (hv : v1 = .slice A (bs.length + k) c) (hW : Only (Foot g v) w wr) (hQ : ∀ i, v1.ownBlock = some i → v.ownBlock = some i ∨ w.heap.size ≤ i)
    (hC : UInt8.ofNat (x >>> (8 * k)) = cb)
    (h1 : w1.ownsRow B 5 1 (.slice (some ⟨gg, 0, none⟩) (bs.length + k + 1) cap) (bs.length + k + 1) (b8s (bs ++ putB k x) ++ [b8 cb]))
    (h2 : ((wr.alloc o).drew).grownBy w1 (Value.ownBlock (.slice A (bs.length + k) c))) (h3 : Value.ownBlock (.slice A (bs.length + k) c) = some gg ∨ gg = wr.heap.size + 1) :
    (w1.cell? ⟨g, 0, none⟩ = some (.slice A (bs.length + k) c) ∧ w1.frozen? ⟨g, 0, none⟩ = false) ∧
      Hid (PutInv B g v bs x w (k + 1) (w1.setCell ⟨g, 0, none⟩ (.slice (some ⟨gg, 0, none⟩) (bs.length + k + 1) cap))) := by
  subst hv
  have hsz : ((wr.alloc o).drew).heap.size = wr.heap.size + 1 := by simp
  have k0 : Only (fun _ => False) wr ((wr.alloc o).drew) := ((Only.refl _ wr).alloc o).drew
  have hO1 : OutAt ((wr.alloc o).drew) B g _ (bs ++ putB k x) := hO.only k0 (fun _ _ h => h)
  have hl : (bs ++ putB (k + 1) x).length = bs.length + k + 1 := by simp [putB_length]; omega
  have h1' : w1.ownsRow B 5 1 (.slice (some ⟨gg, 0, none⟩) (bs.length + k + 1) cap) (bs ++ putB (k + 1) x).length (b8s (bs ++ putB (k + 1) x)) := by
    rw [hl, putB_succ, ← List.append_assoc, hC, b8s_append (bs ++ putB k x) [cb]]
    exact h1
  obtain ⟨r1, v', hv', r2, r3, r4⟩ := out_grown hO1 h1' h2 (by
    rcases h3 with h3 | h3
    · exact .inl h3.symm
    · exact .inr (by rw [h3, hsz]; rfl))
  refine ⟨⟨by simpa using r1.cell 0, r1.frozen 0⟩, v', r2, ?_, ?_⟩
  · refine hW.trans ((k0.mono (T := Foot g (.slice A (bs.length + k) c)) fun _ _ h => h.elim).trans r3 fun _ _ h => h) ?_
    rintro i hi (rfl | h)
    · exact .inl rfl
    · rcases hQ i h with h | h
      · exact .inr h
      · omega
  · intro i hi
    rcases r4 i hi with h | h
    · exact hQ i h
    · right
      have := hW.size
      omega

set_option maxHeartbeats 1000000 in
theorem put_yes (B g : Nat) (v : Value) (bs : List UInt8) (n x : Nat) (w : World) (h : OutAt w B g v bs) (h1 : 1 ≤ n) (h8 : n ≤ 8) (hx : x < 18446744073709551616) (hl : bs.length + n ≤ 140737488355328) :
    Calls Tryd.prog 34 #[.pointer (some ⟨g, 0, none⟩), .int .i64 (n : Int), .int .u64 (x : Int)] w (OutStep w B g v (bs ++ putB n x)) := by
  obtain ⟨i0, hi0, hz0, hz1, hz2⟩ := info_parts Tryd.info8
  have H0 : Hid (PutInv B g v bs x w 0 w) := ⟨v, by simpa [putB] using h, Only.refl _ _, fun i hi => .inl hi⟩
  have HX := Lib.hid hx
  clear h hx
  go_enter Tryd.func34, Tryd.ntmps34
  go_wp2_with (go_at_call 49; refine (width_yes n w (by omega) (by omega)).mono ?_; rintro e w' ⟨rfl, rfl⟩)
  go_loopw [11] (fun i wr => ∃ k : Nat, k ≤ n ∧ i = .int .i64 k ∧ Hid (PutInv B g v bs x w k wr)) (fun i _ => n - (intOf i).toNat)
  case atStart => exact ⟨0, Nat.zero_le _, rfl, H0⟩
  case round =>
    obtain ⟨k, hk, rfl, hrel⟩ := hrel
    clear H0
    by_cases hlt : k < n
    · obtain ⟨v1, hO, hW, hloc⟩ := hrel.out
      obtain ⟨A, c, hv1, _⟩ := owns_slice hO.own
      rw [List.length_append, putB_length] at hv1
      have hc := hO.has.cell 0
      simp only [hv1] at hc
      simp at hc
      have hown : wr.ownsRow B 5 1 (.slice A (bs.length + k) c) (bs.length + k) (b8s (bs ++ putB k x)) := by
        have := hO.own
        rw [List.length_append, putB_length, hv1] at this
        exact this
      have hglt := hO.has.lt
      have hlow := hO.low
      obtain ⟨X, cb, hX, hcb, HC⟩ := byte_of x k (by omega)
      replace HC := Lib.hid HC
      have HO := Lib.hid hO
      have HW := Lib.hid hW
      have HQ := Lib.hid hloc
      have HV := Lib.hid hv1
      have HN := Lib.hid hown
      have hm1 : bs.length + k + 1 ≤ maxLen := by simp only [maxLen]; omega
      have hm2 : (bs.length + k + 1) * 1 ≤ 140737488355328 := by omega
      clear hO hW hloc hrel hv1 hown
      go_wp2
      go_region_law ((refine step_append_lies _ (by rfl) _ _ _ (by rfl) B 5 i0 _ 1 1 Tryd.underlying25 hi0 hz0 hz1 hz2 rfl (by omega) _ _ _ (by rfl) ((HN.out.alloc _).drew) ⟨wr.heap.size, 0, none⟩ 1 1 [b8 cb] (by rfl) (by rfl) (World.news_of_block (cs := #[b8 cb]) (t := 5) (fr := (0, 0)) (heap_alloc_new wr _)) (by simp [b8, Value.oneCell']) (by omega) hm1 hm2 (by simp; omega) (wr.heap.size + 1) (by simp) ?_; intro gg cap w1 hown1 hgrow hat hlt1; obtain ⟨⟨hc1, hf1⟩, R⟩ := put_step HO.out HV.out HW.out HQ.out HC.out hown1 hgrow hat; clear hown1 hgrow hat hc HO HW HQ HC HV HN))
      all_goals
        go_wp2
        go_roundw
        case rel => exact ⟨k + 1, by omega, by go_num, R⟩
        case measure => simp [intOf]; omega
    · have : k = n := by omega
      subst this
      obtain ⟨v1, hO, hW, hloc⟩ := hrel.out
      have R : Hid (OutStep w B g v (bs ++ putB k x) (.returned (.tuple #[])) wr) := ⟨v1, rfl, hO, hW, hloc⟩
      clear hO hW hloc hrel
      go_wp2
      go_end0
      exact R.out
end Go.Proofs.YtkhgaolaaiekjaaDoor
