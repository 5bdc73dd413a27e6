/-
  Package pages: turn: a range over the library's Chunk, whose body may panic.
-/
import Derived.Test.YtnhojcldeloigaaGreatPackPagA
import Derived.Test.YtnhojcldeloigaaGreatRangeP
import Derived.Test.YtnhojcldeloigaaGreatDiskP
namespace Go.Proofs.YtnhojcldeloigaaGreat
open Go.RowKit Go.Lib Go.Maps
set_option maxRecDepth 100000
attribute [local go_sem] Oper.semAt_some

set_option maxHeartbeats 4000000 in
theorem chunk_panics (Bs Bn m z cap : Nat) (ad : Addr) (hz : 1 ≤ z) (hmz : m * z ≤ 100000000) (hcap : m * z ≤ cap) (w : World) (hs : Bs < w.heap.size) (hb : Bn < w.heap.size) (hBs : w.cell? ⟨Bs, 0, none⟩ = some (.slice (some ad) (m * z) cap)) (hBn : w.cell? ⟨Bn, 0, none⟩ = some (.int .i64 (z : Int))) :
    SeqPanics Tryz.prog 79 #[.pointer (some ⟨Bs, 0, none⟩), .pointer (some ⟨Bn, 0, none⟩)] (fun x : Fin m => #[Value.slice (some (ad.add (x.val * z))) z z]) (KpB Bs Bn) (fun ys => ys = finUpto m m) (fun pre x => x.val = pre.length) w := fun l J Jp W hW hD hY h0 => by
  replace hBs := (hW.cell (p := ⟨Bs, 0, none⟩) hs (fun h => h)).trans hBs
  replace hBn := (hW.cell (p := ⟨Bn, 0, none⟩) hb (fun h => h)).trans hBn
  obtain ⟨N, hN⟩ : ∃ N, N = m * z := ⟨_, rfl⟩
  rw [← hN] at hBs hmz hcap
  have HN := Lib.hid hN
  clear hN hW hs hb
  refine (callsIn_wide (n := 4)).1 ?_
  refine callsIn_of_wp Tryz.func79 rfl trivial ?_ rfl
  simp only [Tryz.ntmps79, List.size_toArray, List.length_cons, List.length_nil, Nat.reduceAdd, Nat.reduceSub, Array.replicate_succ, Array.replicate_zero, List.push_toArray, List.append_toArray, List.nil_append, List.cons_append]
  gi_wp2
  gi_loopw [4] (fun u wr => ∃ (k t : Nat), k ≤ m ∧ Hid (t = k * z) ∧ u = .int .i64 (t : Int) ∧ J (finUpto m k) wr ∧ wr.cell? ⟨Bs, 0, none⟩ = some (.slice (some ad) N cap) ∧ wr.cell? ⟨Bn, 0, none⟩ = some (.int .i64 (z : Int)))
    (fun u _ => N - (RowKit.intOf u).toNat)
  case atStart => exact ⟨0, 0, Nat.zero_le _, Lib.hid (by simp), rfl, h0, hBs, hBn⟩
  case round =>
    obtain ⟨k, t, hk, ht, rfl, hJs, cS, cN⟩ := hrel
    clear hBs hBn h0
    by_cases hlt : k < m
    · have hk1 : k * z + z ≤ N := by
        have : (k + 1) * z ≤ m * z := Nat.mul_le_mul_right z hlt
        rw [Nat.succ_mul] at this
        rw [HN.out]
        exact this
      obtain ⟨fn, tmps, assign, body, hy, hR⟩ := hY _ ⟨k, hlt⟩ wr.drew (hD _ _ hJs) (by rw [finUpto_length hk])
      dsimp only at hy
      rw [← ht.out] at hy hk1
      have i1 : (t : Int) < (N : Int) := by omega
      have i2 : (0 : Int) ≤ (t : Int) := by omega
      have i3 : (t : Int) ≤ (N : Int) := by omega
      have d1 : decide (t < N) = true := decide_eq_true (by omega)
      have n1 : ¬ (cap = t) := by omega
      have hmin : min (z : Int) ((N - t : Nat) : Int) = (z : Int) := by omega
      have i4 : (t : Int) + (z : Int) ≤ (cap : Int) := by omega
      have i5 : (0 : Int) ≤ (z : Int) := by omega
      have hw1 : IntKind.i64.wrap ((t : Int) + (z : Int)) = (t : Int) + (z : Int) := IntWalk.i64_in _ (by omega)
      gi_wp2
      gi_region
      gi_wp2
      refine hR.mono ?_
      rintro e W3 (⟨rfl, hJ3, hk3⟩ | ⟨chain, rfl, hp⟩)
      · have cS3 : W3.cell? ⟨Bs, 0, none⟩ = some (.slice (some ad) N cap) := (World.cell?_of_block hk3.1).trans cS
        have cN3 : W3.cell? ⟨Bn, 0, none⟩ = some (.int .i64 (z : Int)) := (World.cell?_of_block hk3.2).trans cN
        gi_wp2
        go_roundw
        case rel => exact ⟨k + 1, t + z, by omega, Lib.hid (by rw [Nat.succ_mul, ← ht.out]), by go_num, by rw [finUpto_succ hlt]; exact hJ3, cS3, cN3⟩
        case measure => simp [RowKit.intOf]; omega
      · gi_wp2
        exact ⟨rfl, .inr ⟨chain, rfl, hp⟩⟩
    · have hke : k = m := by omega
      subst hke
      have htN : t = N := by rw [ht.out, HN.out]
      subst htN
      have d1 : decide (t < t) = false := decide_eq_false (by omega)
      gi_wp2
      go_end0
      exact .inl ⟨⟨_, rfl⟩, _, rfl, hJs⟩

/-- The writes of a list. -/
def BG.listW (g : BG) (l : Nat) (sl : List UInt8) (m : Nat) : List (Int × List UInt8) := (List.range m).map fun j => (((g.at_ + (g.listP l + j) : Nat) : Int), piece g.z sl j)
theorem listW_succ (g : BG) (l : Nat) (sl : List UInt8) (m : Nat) : g.listW l sl (m + 1) = g.listW l sl m ++ [(((g.at_ + (g.listP l + m) : Nat) : Int), piece g.z sl m)] := by
  unfold BG.listW
  rw [List.range_succ, List.map_append]
  rfl
theorem listW_split (g : BG) (l : Nat) (sl : List UInt8) (m k : Nat) : ∃ r, g.listW l sl (m + k) = g.listW l sl m ++ r := by
  unfold BG.listW
  rw [List.range_add, List.map_append]
  exact ⟨_, rfl⟩
/-- What turn does to a disk. -/
def turnD (g : BG) (s : D) (l : Nat) (sl : List UInt8) : Int × D := andD (andD (andD (s.runs (g.listW l sl g.M)) D.sync) (fun s => s.write ((g.at_ + 0 : Nat) : Int) (rootB g.z g.n g.k l))) D.sync
theorem turnD_stops {g : BG} {s : D} {l : Nat} {sl : List UInt8} {m : Nat} (hm : m ≤ g.M) (h : (s.runs (g.listW l sl m)).1 ≠ 0) : turnD g s l sl = s.runs (g.listW l sl m) := by
  obtain ⟨r, hr⟩ := listW_split g l sl m (g.M - m)
  have e : s.runs (g.listW l sl g.M) = s.runs (g.listW l sl m) := by
    have : m + (g.M - m) = g.M := by omega
    rw [← this, hr, D.runs_append, if_neg h]
  unfold turnD
  rw [e, andD_no (D.sync) h, andD_no _ h, andD_no (D.sync) h]
theorem D.write_bounds8 (s : D) (i : Int) (b : List UInt8) : (s.write i b).2.pend.length ≤ s.pend.length + 1 ∧ (s.write i b).2.writes ≤ s.writes + 1 ∧ (s.write i b).2.armed ≤ s.armed := by
  unfold D.write
  split
  · exact ⟨by simp, by simp, Nat.le_refl _⟩
  · split
    · exact ⟨by simp, by simp, Nat.le_refl _⟩
    · split
      · exact ⟨by simp [D.cut], by simp [D.cut], by simp [D.cut]⟩
      · exact ⟨by simp [D.put], by simp [D.put], by simp [D.put]⟩
theorem runs_shape (ws : List (Int × List UInt8)) : ∀ s : D, (s.runs ws).2.kept.length = s.kept.length ∧ (s.runs ws).2.size = s.size ∧ (s.runs ws).2.pend.length ≤ s.pend.length + ws.length ∧ (s.runs ws).2.writes ≤ s.writes + ws.length ∧ (s.runs ws).2.armed ≤ s.armed := by
  induction ws with
  | nil => intro s; exact ⟨rfl, rfl, Nat.le_refl _, Nat.le_refl _, Nat.le_refl _⟩
  | cons p ws ih =>
    intro s
    have h1 := D.write_shape s p.1 p.2
    have h2 := D.write_bounds8 s p.1 p.2
    simp only [D.runs]
    split
    · obtain ⟨q1, q2, q3, q4, q5⟩ := ih (s.write p.1 p.2).2
      refine ⟨q1.trans h1.1, q2.trans h1.2.1, ?_, ?_, by omega⟩ <;> (simp only [List.length_cons]; omega)
    · exact ⟨h1.1, h1.2.1, by simp only [List.length_cons]; omega, by simp only [List.length_cons]; omega, h2.2.2⟩
/-- So much room is left in what is counted. -/
structure D.Room (s : D) (n : Nat) : Prop where
  pend : s.pend.length + n ≤ 1000000
  armed : s.armed ≤ 9223372036854775807
  writes : s.writes + n ≤ 1000000
theorem D.Room.small {s : D} {n : Nat} (h : s.Room n) : s.Small := ⟨by have := h.pend; omega, h.armed, by have := h.writes; omega⟩
theorem D.Room.less {s : D} {n m : Nat} (h : s.Room n) (hm : m ≤ n) : s.Room m := ⟨by have := h.pend; omega, h.armed, by have := h.writes; omega⟩
theorem D.Room.runs {s : D} {n : Nat} {ws : List (Int × List UInt8)} (h : s.Room n) (hn : ws.length ≤ n) : (s.runs ws).2.Room (n - ws.length) := by
  obtain ⟨_, _, q3, q4, q5⟩ := runs_shape ws s
  exact ⟨by have := h.pend; omega, by have := h.armed; omega, by have := h.writes; omega⟩
theorem D.Room.sync {s : D} {n : Nat} (h : s.Room n) : s.sync.2.Room n := by
  unfold D.sync
  split
  · exact h
  · exact ⟨by have := h.pend; simp; omega, h.armed, h.writes⟩

/-- Within turn, and behind it. N: where the statement's own two blocks lie. -/
def TFin (w : World) (F E G : Nat → Prop) (gd : Nat) (s : D) (gb : Nat) (g : BG) (ch : Nat → Option (List UInt8)) (N : Nat) (W : World) : Prop :=
  ∃ F' E' G', St W F' E' G' gd s gb g ch ∧ (∀ i, F' i → F i ∨ N + 2 ≤ i) ∧ (∀ i, E' i → E i ∨ N + 2 ≤ i) ∧ (∀ i, G' i → G i ∨ N + 2 ≤ i) ∧ Only (fun i => F i ∨ G i) w W
section
variable {w W W' : World} {F E G : Nat → Prop} {gd gb N : Nat} {s s' : D} {g : BG} {ch : Nat → Option (List UInt8)}
theorem TFin.only (h : TFin w F E G gd s gb g ch N W) (k : Only (fun i => w.heap.size ≤ i ∧ i < N + 2) W W') (hF : ∀ i, F i → i < w.heap.size) (hE : ∀ i, E i → i < w.heap.size) (hG : ∀ i, G i → i < w.heap.size) : TFin w F E G gd s gb g ch N W' := by
  obtain ⟨F', E', G', d, f, e, q, o⟩ := h
  refine ⟨F', E', G', d.only k (fun i _ hS => ⟨fun h => ?_, fun h => ?_, fun h => ?_⟩), f, e, q, o.trans k (fun i hi h => by have h := h.1; omega)⟩
  · have h1 := hS.1
    have h2 := hS.2
    rcases f i h with h | h
    · have := hF i h
      omega
    · omega
  · have h1 := hS.1
    have h2 := hS.2
    rcases e i h with h | h
    · have := hE i h
      omega
    · omega
  · have h1 := hS.1
    have h2 := hS.2
    rcases q i h with h | h
    · have := hG i h
      omega
    · omega
theorem TFin.step (h : TFin w F E G gd s gb g ch N W) (hN : w.heap.size ≤ N) : StStep w F E G gd s gb g ch W := by
  obtain ⟨F', E', G', d, f, e, q, o⟩ := h
  exact ⟨F', E', G', d, fun i hi => (f i hi).imp id (fun h => by omega), fun i hi => (e i hi).imp id (fun h => by omega), fun i hi => (q i hi).imp id (fun h => by omega), o⟩
/-- A step more. -/
theorem TFin.go {F' E' G' : Nat → Prop} (hN : w.heap.size ≤ N) (hw : N + 2 ≤ W.heap.size) (f : ∀ i, F' i → F i ∨ N + 2 ≤ i) (e : ∀ i, E' i → E i ∨ N + 2 ≤ i) (q : ∀ i, G' i → G i ∨ N + 2 ≤ i) (o : Only (fun i => F i ∨ G i) w W) (k : StStep W F' E' G' gd s' gb g ch W') :
    TFin w F E G gd s' gb g ch N W' ∧ Only (fun i => F i ∨ G i ∨ N + 2 ≤ i) W W' := by
  obtain ⟨F2, E2, G2, d2, f2, e2, q2, o2⟩ := k
  have hs := o.size
  refine ⟨⟨F2, E2, G2, d2, fun i hi => ?_, fun i hi => ?_, fun i hi => ?_, o.trans o2 (fun i hi h => ?_)⟩, o2.mono (fun i _ h => ?_)⟩
  · rcases f2 i hi with h | h
    · exact f i h
    · right; omega
  · rcases e2 i hi with h | h
    · exact e i h
    · right; omega
  · rcases q2 i hi with h | h
    · exact q i h
    · right; omega
  · rcases h with h | h
    · rcases f i h with h | h
      · exact .inl h
      · omega
    · rcases q i h with h | h
      · exact .inr h
      · omega
  · rcases h with h | h
    · rcases f i h with h | h
      · exact .inl h
      · exact .inr (.inr h)
    · rcases q i h with h | h
      · exact .inr (.inl h)
      · exact .inr (.inr h)
theorem tf_sync (h : TFin w F E G gd s gb g ch N W) (hN : w.heap.size ≤ N) (hw : N + 2 ≤ W.heap.size) (hs : s.Small) :
    Calls Tryz.prog 48 #[.pointer (some ⟨gb, 0, none⟩)] W fun e w' => e = endsIn s.sync.1 ∧ TFin w F E G gd s.sync.2 gb g ch N w' ∧ Only (fun i => F i ∨ G i ∨ N + 2 ≤ i) W w' := by
  obtain ⟨F', E', G', d, f, e, q, o⟩ := h
  exact (pgsync_any F' E' G' gd gb s g ch W d hs).mono fun ee w' hh => ⟨hh.1, TFin.go hN hw f e q o hh.2⟩
theorem tf_write (h : TFin w F E G gd s gb g ch N W) (hN : w.heap.size ≤ N) (hw : N + 2 ≤ W.heap.size) (hs : s.Small) (p lo hi : Nat) (x : Value) (b : List UInt8) (hp : p < g.n) (hx : SlIs W lo hi x b) (hhi : hi ≤ N) (hfar : ∀ i, lo ≤ i → i < hi → ¬ F i) :
    Calls Tryz.prog 69 #[.pointer (some ⟨gb, 0, none⟩), .int .i64 (p : Int), x] W fun e w' => e = endsIn (s.write ((g.at_ + p : Nat) : Int) b).1 ∧ TFin w F E G gd (s.write ((g.at_ + p : Nat) : Int) b).2 gb g ch N w' ∧ Only (fun i => F i ∨ G i ∨ N + 2 ≤ i) W w' := by
  obtain ⟨F', E', G', d, f, e, q, o⟩ := h
  refine (pgwrite_any F' E' G' gd gb s g ch W d p lo hi x b hp hx (by omega) (fun i h1 h2 hF => ?_) hs).mono fun ee w' hh => ⟨hh.1, TFin.go hN hw f e q o hh.2⟩
  rcases f i hF with h | h
  · exact hfar i h1 h2 h
  · omega
/-- The root: its bytes are made, and written. -/
theorem tf_root (h : TFin w F E G gd s gb g ch N W) (hN : w.heap.size ≤ N) (hw : N + 2 ≤ W.heap.size) (hs : s.Small) (hn : 0 < g.n) (l : Nat) (w1 : World) (h1 : NewB W g.z (rootB g.z g.n g.k l) (.returned (.slice (some ⟨W.heap.size, 0, none⟩) g.z g.z)) w1) :
    Calls Tryz.prog 69 #[.pointer (some ⟨gb, 0, none⟩), .int .i64 0, .slice (some ⟨W.heap.size, 0, none⟩) g.z g.z] w1 fun e w' => e = endsIn (s.write ((g.at_ + 0 : Nat) : Int) (rootB g.z g.n g.k l)).1 ∧ TFin w F E G gd (s.write ((g.at_ + 0 : Nat) : Int) (rootB g.z g.n g.k l)).2 gb g ch N w' ∧ Only (fun i => F i ∨ G i ∨ N + 2 ≤ i) W w' := by
  obtain ⟨F', E', G', d, f, e, q, o⟩ := h
  obtain ⟨_, o1, b1⟩ := h1
  have hl : (rootB g.z g.n g.k l).length = g.z := by have := o1.1; rw [b8s_length] at this; omega
  have hx := owns_SlIs (bs := rootB g.z g.n g.k l) (by rw [hl]; exact o1)
  have k1 : Only (fun _ => False) W w1 := ⟨b1.os, b1.tape, b1.output, b1.size, fun i hi _ => b1.block i hi⟩
  refine (pgwrite_any F' E' G' gd gb s g ch w1 (d.new k1) 0 _ _ _ _ hn hx (Nat.le_refl _) (fun i h1 h2 hF => ?_) hs).mono fun ee w' hh => ⟨hh.1, TFin.go hN hw f e q o (hh.2.before k1)⟩
  have := d.lts.1 i hF
  omega
theorem runs_off (ws : List (Int × List UInt8)) : ∀ s : D, (s.runs ws).1 = 0 → (s.runs ws).2.off = s.off := by
  induction ws with
  | nil => intro s _; rfl
  | cons p ws ih =>
    intro s h
    simp only [D.runs] at h ⊢
    split at h
    · rename_i h0
      rw [if_pos h0, ih _ h]
      unfold D.write at h0 ⊢
      split at h0
      · cases h0
      · rename_i h1
        rw [if_neg h1]
        split at h0
        · cases h0
        · rename_i h2
          rw [if_neg h2]
          split at h0
          · cases h0
          · rename_i h3
            rw [if_neg h3]
            rfl
    · rename_i h0
      exact absurd h h0
theorem sync_on {s : D} (h : s.off = false) : s.sync.1 = 0 ∧ s.sync.2.off = false := by
  unfold D.sync
  rw [if_neg (by rw [h]; decide)]
  exact ⟨rfl, h⟩
theorem write_off {s : D} {i : Int} {b : List UInt8} (h : (s.write i b).1 = 0) : (s.write i b).2.off = s.off := by
  have := runs_off [(i, b)] s
  simp only [D.runs] at this
  rw [if_pos h] at this
  exact this rfl
end
end Go.Proofs.YtnhojcldeloigaaGreat
