/-
  Package disk: Of, by the library's Chunk.
-/
import Derived.Test.YtnhojcldeloigaaGreatDiskN
import Derived.RangeFuncBox
import Derived.RangeFuncLeaves
import Derived.Shelf.Abstract
import Derived.WalkKit
import Derived.OwnWalkIn
import Derived.TacticsInMore
import Derived.LoopNIn
import Derived.LoopIn
import Derived.Maps.AppendAt
namespace Go.Proofs.YtnhojcldeloigaaGreat
open Go.RowKit Go.Lib
set_option maxRecDepth 100000
attribute [local go_sem] Oper.semAt_some

/-- The i-th piece of z bytes. -/
def piece (z : Nat) (b : List UInt8) (i : Nat) : List UInt8 := (b.drop (i * z)).take z
/-- The first k of m. -/
def finUpto (m k : Nat) : List (Fin m) := (List.finRange m).take k
theorem finUpto_succ {m k : Nat} (h : k < m) : finUpto m (k + 1) = finUpto m k ++ [⟨k, h⟩] := by
  unfold finUpto
  rw [List.take_succ_eq_append_getElem (by simpa using h)]
  simp
theorem finUpto_length {m k : Nat} (h : k ≤ m) : (finUpto m k).length = k := by simp [finUpto, h]
def KpB (b0 b1 : Nat) (W W' : World) : Prop := W'.heap[b0]? = W.heap[b0]? ∧ W'.heap[b1]? = W.heap[b1]?

set_option maxHeartbeats 4000000 in
theorem chunk1_in (n l Bs Bn m z cap : Nat) (hn : 1 ≤ n) (ad : Addr) (hz : 1 ≤ z) (hmz : m * z ≤ 100000000) (hcap : m * z ≤ cap) (J Jx : List (Fin m) → World → Prop) (hD : ∀ pre W, J pre W → J pre W.drew)
    (hY : ∀ pre x W, J pre W → pre.length < m → YieldAt Fence.wide (n - 1) Tryz.prog l #[.slice (some (ad.add (x.val * z))) z z] W fun e W' =>
      (e = .returned (.bool true) ∧ J (pre ++ [x]) W' ∧ KpB Bs Bn W W') ∨ (e = .returned (.bool false) ∧ Jx (pre ++ [x]) W'))
    (W : World) (hBs : W.cell? ⟨Bs, 0, none⟩ = some (.slice (some ad) (m * z) cap)) (hBn : W.cell? ⟨Bn, 0, none⟩ = some (.int .i64 (z : Int))) (h0 : J [] W) :
    CallsIn Fence.wide n Tryz.prog 79 #[.func (.yield l) #[] #[], .pointer (some ⟨Bs, 0, none⟩), .pointer (some ⟨Bn, 0, none⟩)] W fun e W' => (∃ v, e = .returned v) ∧
      ((∃ ys, ys = finUpto m m ∧ J ys W') ∨ (∃ pre, True ∧ Jx pre W')) := by
  obtain ⟨N, hN⟩ : ∃ N, N = m * z := ⟨_, rfl⟩
  rw [← hN] at hBs hmz hcap
  have HN := Lib.hid hN
  clear hN
  refine callsIn_of_wp Tryz.func79 rfl trivial ?_ rfl
  simp only [Tryz.ntmps79, List.size_toArray, List.length_cons, List.length_nil, Nat.reduceAdd, Nat.reduceSub, Array.replicate_succ, Array.replicate_zero, List.push_toArray, List.append_toArray, List.nil_append, List.cons_append]
  gi_wp2
  gi_loopw [4] (fun u wr => ∃ (k t : Nat), k ≤ m ∧ Hid (t = k * z) ∧ u = .int .i64 (t : Int) ∧ J (finUpto m k) wr ∧ wr.cell? ⟨Bs, 0, none⟩ = some (.slice (some ad) N cap) ∧ wr.cell? ⟨Bn, 0, none⟩ = some (.int .i64 (z : Int)))
    (fun u _ => N - (RowKit.intOf u).toNat)
  case atStart => exact ⟨0, 0, Nat.zero_le _, Lib.hid (by simp), rfl, h0, hBs, hBn⟩
  case round =>
    obtain ⟨k, t, hk, ht, rfl, hJs, cS, cN⟩ := hrel
    clear hBs hBn h0
    by_cases hlt : k < m
    · have hk1 : k * z + z ≤ N := by
        have : (k + 1) * z ≤ m * z := Nat.mul_le_mul_right z hlt
        rw [Nat.succ_mul] at this
        rw [HN.out]
        exact this
      obtain ⟨fn, tmps, assign, body, hy, hR⟩ := hY _ ⟨k, hlt⟩ wr.drew (hD _ _ hJs) (by rw [finUpto_length hk]; exact hlt)
      dsimp only at hy
      rw [← ht.out] at hy hk1
      have i1 : (t : Int) < (N : Int) := by omega
      have i2 : (0 : Int) ≤ (t : Int) := by omega
      have i3 : (t : Int) ≤ (N : Int) := by omega
      have d1 : decide (t < N) = true := decide_eq_true (by omega)
      have n1 : ¬ (cap = t) := by omega
      have hmin : min (z : Int) ((N - t : Nat) : Int) = (z : Int) := by omega
      have i4 : (t : Int) + (z : Int) ≤ (cap : Int) := by omega
      have i5 : (0 : Int) ≤ (z : Int) := by omega
      have hw1 : IntKind.i64.wrap ((t : Int) + (z : Int)) = (t : Int) + (z : Int) := IntWalk.i64_in _ (by omega)
      gi_wp2
      gi_region
      gi_wp2
      refine hR.mono ?_
      rintro e W3 (⟨rfl, hJ3, hk3⟩ | ⟨rfl, hJx3⟩)
      · have cS3 : W3.cell? ⟨Bs, 0, none⟩ = some (.slice (some ad) N cap) := (World.cell?_of_block hk3.1).trans cS
        have cN3 : W3.cell? ⟨Bn, 0, none⟩ = some (.int .i64 (z : Int)) := (World.cell?_of_block hk3.2).trans cN
        gi_wp2
        go_roundw
        case rel => exact ⟨k + 1, t + z, by omega, Lib.hid (by rw [Nat.succ_mul, ← ht.out]), by go_num, by rw [finUpto_succ hlt]; exact hJ3, cS3, cN3⟩
        case measure => simp [RowKit.intOf]; omega
      · gi_wp2
        refine bodyPost_ret (results_none rfl _ _ _) rfl ?_
        exact ⟨⟨_, rfl⟩, .inr ⟨_, trivial, hJx3⟩⟩
    · have hke : k = m := by omega
      subst hke
      have htN : t = N := by rw [ht.out, HN.out]
      subst htN
      have d1 : decide (t < t) = false := decide_eq_false (by omega)
      gi_wp2
      go_end0
      exact ⟨⟨_, rfl⟩, .inl ⟨_, rfl, hJs⟩⟩

set_option maxHeartbeats 1000000 in
theorem chunk_any (A : Option Addr) (len cap z : Nat) (hz : 1 ≤ z) (w : World) :
    Calls Tryz.prog 54 #[.slice A len cap, .int .i64 (z : Int)] w fun e w' => e = .returned (.func (.func 79) #[] #[.pointer (some ⟨w.heap.size, 0, none⟩), .pointer (some ⟨w.heap.size + 1, 0, none⟩)]) ∧ w' = (w.alloc (.cells #[.slice A len cap] 33)).alloc (.cells #[.int .i64 (z : Int)] 3) := by
  have d1 : decide ((z : Int) < 1) = false := decide_eq_false (by omega)
  have d2 : ¬ ((z : Int) < 1) := by omega
  go_enter Tryz.func54, Tryz.ntmps54
  go_wp2
  go_ret
  exact ⟨rfl, rfl⟩

/-- Chunk hands back a value that hands over all pieces, in their order. -/
theorem chunk_stops (n Bs Bn m z cap : Nat) (hn : 1 ≤ n) (ad : Addr) (hz : 1 ≤ z) (hmz : m * z ≤ 100000000) (hcap : m * z ≤ cap) (w : World) (hs : Bs < w.heap.size) (hb : Bn < w.heap.size) (hBs : w.cell? ⟨Bs, 0, none⟩ = some (.slice (some ad) (m * z) cap)) (hBn : w.cell? ⟨Bn, 0, none⟩ = some (.int .i64 (z : Int))) :
    SeqStopsK Fence.wide n Tryz.prog 79 #[.pointer (some ⟨Bs, 0, none⟩), .pointer (some ⟨Bn, 0, none⟩)] (fun x : Fin m => #[Value.slice (some (ad.add (x.val * z))) z z]) (KpB Bs Bn) (fun ys => ys = finUpto m m) (fun _ => True) m w := fun l J Jx W hW hJ _ hY h0 =>
  chunk1_in n l Bs Bn m z cap hn ad hz hmz hcap J Jx (fun pre W h => hJ pre W W.drew none h ⟨rfl, rfl, rfl, Nat.le_refl _, fun _ _ _ => rfl⟩ (fun r e => by cases e)) hY W ((hW.cell (p := ⟨Bs, 0, none⟩) hs).trans hBs) ((hW.cell (p := ⟨Bn, 0, none⟩) hb).trans hBn) h0

/-- What the return lays aside is none of the disk's. -/
theorem Dk.putD {w : World} {B D0 g : Nat} {s : D} {x : Option (List Deferred)} (h : Dk w (fun i => B ≤ i ∧ i < w.heap.size) (fun _ => False) g s) (hD : w.heap[D0]? = some (.deferred x)) (o : Obj) : Dk (w.putObj D0 o) (fun i => B ≤ i ∧ i < (w.putObj D0 o).heap.size) (fun _ => False) g s := by
  obtain ⟨gk, ck, gs, cs, pv, hv, h⟩ := h
  have k : Only (fun i => i = D0) w (w.putObj D0 o) := Only.of_grown (grownBy_putObj' w D0 o) |>.mono (fun i _ e => by injection e)
  have hz : (w.putObj D0 o).heap.size = w.heap.size := by simp
  have nc : ∀ i cs t fr, w.heap[i]? = some (.cells cs t fr) → i ≠ D0 := fun i cs t fr hi e => by
    rw [e, hD] at hi
    cases hi
  have nr : ∀ {e : TypeId} {size n : Nat} {v : Value} {us : List Value}, w.ownsRow 0 e size v n us → ∀ i, v.ownBlock = some i → i ≠ D0 := fun hr i hi => by
    rcases hr.2 with ⟨rfl, _⟩ | ⟨g', cap, cur, rfl, _, hg, _⟩
    · cases hi
    · have : g' = i := by simpa [Value.ownBlock] using hi
      subst this
      exact nc _ _ _ _ hg
  have ng := nc _ _ _ _ h.has
  have nk := nr h.kept gk rfl
  have ns := nr h.seen gs rfl
  refine ⟨gk, ck, gs, cs, pv, hv, ⟨h.has.only k ng, h.kept.only k nk, h.seen.only k ns, owns_only h.pend k (fun i hi => nr h.pend i hi), h.keep.only k (fun _ _ hE => hE.elim), h.ne, ?_, ?_, ?_, fun i hi => ?_, fun i hi => hi.2, fun i hi => hi.elim, fun i hi => hi.elim, h.ok⟩⟩
  · rw [hz]; exact h.fg
  · rw [hz]; exact h.fk
  · rw [hz]; exact h.fs
  · rw [hz]; exact h.fp i hi
theorem boxed7 {β : Type} (B0 : Nat) (t : TypeId) (v : Value) : Own (fun (_ : β) W => Boxed W B0 t v) := fun _ W W' row hs hg hr => hs.kept hg (fun e => by
  obtain ⟨o, ho, hc⟩ := hr B0 e.symm
  rw [show W.heap[B0]? = _ from hs] at ho
  injection ho with ho
  subst ho
  cases hc)

theorem SlIs.piece {w : World} {lo hi n c k z : Nat} {ad : Addr} {b : List UInt8} (h : SlIs w lo hi (.slice (some ad) n c) b) (hk : k + z ≤ b.length) : SlIs w lo hi (.slice (some (ad.add k)) z z) ((b.drop k).take z) := by
  obtain ⟨A', c', e, h1, h2, h3⟩ := h
  injection e with e1 _ e3
  subst e1 e3
  have hl : ((b.drop k).take z).length = z := by simp; omega
  refine ⟨some (ad.add k), z, by rw [hl], by omega, by omega, fun hn => ?_⟩
  obtain ⟨ad', e, q1, q2, q3⟩ := h3 (by omega)
  injection e with e
  subst e
  refine ⟨_, rfl, by rw [addr_block]; exact q1, by rw [addr_block]; exact q2, fun j u hu => ?_⟩
  rw [addr_add]
  refine q3 (k + j) u ?_
  simp only [b8s, List.getElem?_map, List.getElem?_take, List.getElem?_drop] at hu ⊢
  split at hu
  · exact hu
  · simp at hu
theorem pieces_all (m z : Nat) (b : List UInt8) : (finUpto m m).map (fun x => sv (piece z b x.val)) = svs ((List.range m).map (piece z b)) := by
  apply List.ext_getElem
  · simp [finUpto, svs]
  · intro i h1 h2
    simp [finUpto, svs]
theorem piece_length {m z i : Nat} {b : List UInt8} (hl : b.length = m * z) (hi : i < m) : (piece z b i).length = z := by
  have : (i + 1) * z ≤ m * z := Nat.mul_le_mul_right z hi
  rw [Nat.succ_mul] at this
  simp [piece]
  omega

/-- What Of answers. -/
def OfAns (w : World) (z : Nat) (b : List UInt8) (e : Ending) (w' : World) : Prop :=
  ∃ v, e = .returned (.tuple #[v, .int .i64 0]) ∧ MadeStep w w.heap.size (D.new z ((List.range (b.length / z)).map (piece z b))) v w'
set_option maxHeartbeats 4000000 in
theorem diskof_yes (m z c : Nat) (ad : Addr) (b : List UInt8) (w : World) (hb : SlIs w 0 w.heap.size (.slice (some ad) b.length c) b) (hl : b.length = m * z) (hm1 : 1 ≤ m) (hm : m ≤ 16384) (hz1 : 64 ≤ z) (hz : z ≤ 1024) :
    Calls Tryz.prog 25 #[.slice (some ad) b.length c, .int .i64 (z : Int)] w (OfAns w z b) := by
  have hmz : m * z ≤ 16777216 := Nat.mul_le_mul hm hz
  obtain ⟨N, hN⟩ : ∃ N, N = b.length := ⟨_, rfl⟩
  have hcap : b.length ≤ c := by
    obtain ⟨A', c', e, h1, _⟩ := hb
    injection e with _ _ e
    subst e
    exact h1
  have hdiv : ((N : Int)).tdiv (z : Int) = (m : Int) := by
    rw [hN, hl, Int.tdiv_eq_ediv_of_nonneg (by omega)]
    rw [Int.natCast_mul]
    exact Int.mul_ediv_cancel _ (by omega)
  have hrem : ((N : Int)).tmod (z : Int) = 0 := by
    rw [hN, hl, Int.tmod_eq_emod_of_nonneg (by omega), Int.natCast_mul]
    exact Int.mul_emod_left _ _
  have hmod : (N : Int) % (z : Int) = 0 := by rw [hN, hl, Int.natCast_mul]; exact Int.mul_emod_left _ _
  have hdv : (N : Int) / (z : Int) = (m : Int) := by rw [hN, hl, Int.natCast_mul]; exact Int.mul_ediv_cancel _ (by omega)
  have d1 : decide ((z : Int) < 64) = false := decide_eq_false (by omega)
  have d1' : decide (z < 64) = false := decide_eq_false (by omega)
  have nz : ¬ ((z : Int) = 0) := by omega
  have CM : Hid (∀ w, Calls Tryz.prog 28 #[.int .i64 (m : Int), .int .i64 (z : Int)] w fun e w' => e = .returned (.bool true) ∧ w = w') := fun w => by
    have := maybe_any (m : Int) (z : Int) w
    rw [show mayB (m : Int) (z : Int) = true from decide_eq_true ⟨by omega, by omega, by omega, by omega⟩] at this
    exact this
  have CC := Lib.hid (chunk_any (some ad) N c z (by omega))
  have HN := Lib.hid hN
  have HL := Lib.hid hl
  have HBB := Lib.hid hb
  rw [← hN] at hcap ⊢
  clear hN hl hb
  refine (callsIn_wide (n := 4)).1 ?_
  refine callsIn_of_wp_marks Tryz.func25 rfl trivial ?_ rfl
  simp only [Tryz.ntmps25, List.size_toArray, List.length_cons, List.length_nil, Nat.reduceAdd, Nat.reduceSub, Array.replicate_succ, Array.replicate_zero, List.push_toArray, List.append_toArray, List.nil_append, List.cons_append]
  gi_wp2_with (first
    | (refine ⟨trivial, ?_⟩; gi_at_call 28; refine (callsIn_wide.2 (CM.out _)).mono ?_; rintro e w' ⟨rfl, rfl⟩)
    | (refine ⟨trivial, ?_⟩; gi_at_call 54; refine (callsIn_wide.2 (CC.out _)).mono ?_; rintro e w' ⟨rfl, rfl⟩))
  obtain ⟨W0, hW0⟩ : ∃ W0, W0 = ((w.alloc (.cells #[.slice none 0 0] 32)).alloc (.cells #[.slice (some ad) N c] 33)).alloc (.cells #[.int .i64 (z : Int)] 3) := ⟨_, rfl⟩
  have sz0 : W0.heap.size = w.heap.size + 3 := by rw [hW0]; simp
  have bO : Boxed W0 w.heap.size 32 (.slice none 0 0) := by rw [hW0]; exact ((Boxed.new w _ _).alloc _).alloc _
  have bS : Boxed W0 (w.heap.size + 1) 33 (.slice (some ad) N c) := by
    have := (Boxed.new (w.alloc (.cells #[.slice none 0 0] 32)) 33 (.slice (some ad) N c)).alloc (.cells #[.int .i64 (z : Int)] 3)
    rw [World.size_alloc] at this
    rw [hW0]
    exact this
  have bN : Boxed W0 (w.heap.size + 1 + 1) 3 (.int .i64 (z : Int)) := by
    have := Boxed.new ((w.alloc (.cells #[.slice none 0 0] 32)).alloc (.cells #[.slice (some ad) N c] 33)) 3 (.int .i64 (z : Int))
    rw [World.size_alloc, World.size_alloc] at this
    rw [hW0]
    exact this
  have hB0 : Below w.heap.size w W0 := by
    rw [hW0]
    exact (((Below.refl _ w).alloc (Nat.le_refl _) _).alloc (by simp) _).alloc (by simp; omega) _
  rw [← hW0]
  have cS0 := bS.cell
  rw [show N = m * z by rw [HN.out, HL.out]] at cS0
  have hcap' : m * z ≤ c := by rw [← HL.out, ← HN.out]; exact hcap
  obtain ⟨i0, hi, hz0, hz1', hz2⟩ := info_parts Tryz.infoStr
  refine wpIn_rangeFunc_ownG rfl (by omega) (gf := 79) (lb := #[.pointer (some ⟨w.heap.size + 1, 0, none⟩), .pointer (some ⟨w.heap.size + 1 + 1, 0, none⟩)]) rfl trivial (enters_of Tryz.func79 (by kernel_rfl) rfl)
    (chunk_stops 3 (w.heap.size + 1) (w.heap.size + 1 + 1) m z c (by omega) ad (by omega) (by omega) hcap' W0 (by omega) (by omega) cS0 bN.cell)
    (fun h k => ⟨k.1.trans h.1, k.2.trans h.2⟩)
    (fun W l o o' hl _ _ _ => ⟨World.putObj_heap_other (by omega), World.putObj_heap_other (by omega)⟩) (Below.refl _ _) (fun _ => rfl)
    (fun pre W => ((∃ v, Boxed W w.heap.size 32 v ∧ W.ownsRow w.heap.size 9 1 v pre.length (pre.map fun x => sv (piece z b x.val)) ∧ True) ∧ Below w.heap.size w W) ∧ Boxed W (w.heap.size + 1) 33 (.slice (some ad) N c) ∧ Boxed W (w.heap.size + 1 + 1) 3 (.int .i64 (z : Int)))
    (fun _ _ _ => False)
    (OwnFrom.and (OwnFrom.and (Own.from (holdsRow_own w.heap.size w.heap.size 32 9 1 (fun pre : List (Fin m) => pre.length) (fun pre : List (Fin m) => pre.map fun x => sv (piece z b x.val)) (fun _ _ => True)) _) (ownFrom_below (Nat.le_refl _) (by omega))) (OwnFrom.and (Own.from (boxed7 _ _ _) _) (Own.from (boxed7 _ _ _) _)))
    (fun _ _ _ _ _ hs _ _ => hs)
    ⟨⟨⟨_, bO, World.ownsRow_nil _ _ _ _, trivial⟩, hB0⟩, bS, bN⟩
    (fun x => { tmps := #[.slice (some ad) N c, .int .i64 (z : Int), undef, undef, .pointer none, .int .i64 0, .pointer (some ⟨w.heap.size, 0, none⟩), .slice (some (ad.add (x.val * z))) z z, .int .i64 (z : Int), .bool false, .bool false, .slice (some ad) N c, .int .i64 (N : Int), .int .i64 (z : Int), .int .i64 0, .bool false, .bool false, .bool false, .slice (some ad) N c, .int .i64 (N : Int), .int .i64 (z : Int), .int .i64 (m : Int), .int .i64 (z : Int), .bool true, .bool false, .bool false, .slice (some ad) N c, .int .i64 (z : Int), .func (.func 79) #[] #[.pointer (some ⟨w.heap.size + 1, 0, none⟩), .pointer (some ⟨w.heap.size + 1 + 1, 0, none⟩)], .slice (some (ad.add (x.val * z))) z z, undef, undef, undef, undef, undef, undef, undef, undef], defers := [] }) ?assign ?body ?done ?stop
  case assign =>
    intro l x W K hK
    gi_wp2
    exact hK
  case body =>
    rintro l pre x W ⟨⟨⟨v, hv, hrow, _⟩, hB⟩, b1, b2⟩ hlt
    have hc := hv.cell
    have hxz : x.val * z + z ≤ b.length := by
      have : (x.val + 1) * z ≤ m * z := Nat.mul_le_mul_right z x.isLt
      rw [Nat.succ_mul] at this
      rw [HL.out]
      exact this
    have hst : (convert 33 9 (.slice (some (ad.add (x.val * z))) z z)).run Tryz.prog W = .ok (.string (strOf (piece z b x.val))) W := by
      obtain ⟨A', c', e, r1, r2, r3⟩ := (HBB.out).piece (k := x.val * z) (z := z) hxz
      exact run_str _ _ 0 w.heap.size _ ⟨A', c', e, r1, r2, r3.keep fun p _ hp => World.cell?_of_block (hB.block _ hp)⟩
    have KP : Hid (∀ w1 v', (W.alloc (.cells #[.string (strOf (piece z b x.val))] 9)).grownBy w1 v.ownBlock → KpB (w.heap.size + 1) (w.heap.size + 1 + 1) W (w1.setCell ⟨w.heap.size, 0, none⟩ v') ∧ Boxed (w1.setCell ⟨w.heap.size, 0, none⟩ v') (w.heap.size + 1) 33 (.slice (some ad) N c) ∧ Boxed (w1.setCell ⟨w.heap.size, 0, none⟩ v') (w.heap.size + 1 + 1) 3 (.int .i64 (z : Int))) := fun w1 v' hgrow => by
      have q1 : (w1.setCell ⟨w.heap.size, 0, none⟩ v').heap[w.heap.size + 1]? = W.heap[w.heap.size + 1]? := (Below.heap_setCell w1 ⟨w.heap.size, 0, none⟩ v' _ (by simp)).trans ((hgrow.block _ (by simp; have := b1.lt; omega) (owns_ne hrow b1 (by decide))).trans (Below.heap_alloc W _ _ b1.lt))
      have q2 : (w1.setCell ⟨w.heap.size, 0, none⟩ v').heap[w.heap.size + 1 + 1]? = W.heap[w.heap.size + 1 + 1]? := (Below.heap_setCell w1 ⟨w.heap.size, 0, none⟩ v' _ (by simp; omega)).trans ((hgrow.block _ (by simp; have := b2.lt; omega) (owns_ne hrow b2 (by decide))).trans (Below.heap_alloc W _ _ b2.lt))
      exact ⟨⟨q1, q2⟩, q1.trans b1, q2.trans b2⟩
    have hpl : pre.length < m := hlt
    gi_wp2_with (gi_at_builtin; refine wpListIn_append_own _ rfl _ _ 32 rfl w.heap.size 9 i0 (.string ⟨#[]⟩) 1 16 Tryz.underlying32 hi hz0 hz1' hz2 rfl (by decide) _ _ _ rfl (hrow.alloc _) ⟨W.heap.size, 0, none⟩ 1 1 [.string (strOf (piece z b x.val))] rfl rfl (cell_one_new _ _ _) (by simp [Value.oneCell']) (by simp [maxLen]; omega) (by omega) (by have := hB.size; simp; omega) ?_; intro v' w1 hown' hgrow _; obtain ⟨g', cap', rfl⟩ := ownsRow_succ hown'; obtain ⟨hv1, hv2, hr2, hk2, hb2⟩ := hv.appended (by decide) hrow hB.size (Nat.le_refl _) hown' hgrow; obtain ⟨kp1, kp2, kp3⟩ := KP.out _ (.slice (some ⟨g', 0, none⟩) (pre.length + 1) cap') hgrow; have hc1 := hv1.cell; have hf1 := hv1.frozen)
    exact ⟨hk2.from _, kp1, ⟨⟨_, hv2, by simpa [sv] using hr2, trivial⟩, hB.trans hb2⟩, kp2, kp3⟩
  case done =>
    rintro D0 ys W hD rfl ⟨⟨⟨v, hv, hrow, _⟩, hB⟩, b1, b2⟩ hK
    have hc := hv.cell
    rw [pieces_all, finUpto_length (Nat.le_refl _)] at hrow
    obtain ⟨gv, cv, rfl, _⟩ := owns_some hrow (by omega)
    have CMd := Lib.hid (made_any ((List.range m).map (piece z b)) z w.heap.size _ W (by simpa using hrow) hB.size (by simp; omega) (by simp; omega) hz (fun y hy => by
      obtain ⟨i, hi, rfl⟩ := List.mem_map.1 hy
      exact piece_length HL.out (by simpa using hi)))
    have hDl : D0 < W.heap.size := (Array.getElem?_eq_some_iff.1 hK).1
    have FN : Hid (∀ v w', MadeStep W w.heap.size (D.new z ((List.range m).map (piece z b))) v w' → w'.heap[D0]? = some (.deferred (some [])) ∧ MadeStep w w.heap.size (D.new z ((List.range (b.length / z)).map (piece z b))) v (w'.putObj D0 (.deferred none))) := fun v w' hm => by
      obtain ⟨g, rfl, d, bb⟩ := hm
      have hK' : w'.heap[D0]? = some (.deferred (some [])) := (bb.block D0 hDl).trans hK
      refine ⟨hK', g, rfl, ?_, (hB.trans (bb.mono hB.size)).trans (belowK_b (w := w) (Nat.le_refl _) w' D0 _ _ (by omega) hK' rfl rfl)⟩
      rw [show b.length / z = m by rw [HL.out]; exact Nat.mul_div_cancel _ (by omega)]
      exact d.putD hK' _
    gi_wp2_with (refine ⟨trivial, ?_⟩; gi_at_call 29; refine (callsIn_wide.2 CMd.out).mono ?_; rintro e w' ⟨v', rfl, hm⟩; obtain ⟨hK', hM⟩ := FN.out _ _ hm)
    refine ⟨by simp, .inl ⟨_, _, rfl, run_takeDeferred hK', ?_⟩⟩
    exact ⟨_, results_tmp2 rfl _ _ _, v', rfl, hM⟩
  case stop =>
    rintro D0 c pre W _ _ h _
    exact h.elim
end Go.Proofs.YtnhojcldeloigaaGreat
