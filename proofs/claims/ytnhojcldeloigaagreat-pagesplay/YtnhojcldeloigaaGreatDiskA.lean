/-
  Layer 7: a disk as rows of sectors, what its calls do to it; how it lies in memory.
-/
import Derived.Test.YtnhojcldeloigaaGreatVals
import Derived.Test.YtnhojcldeloigaaGreatFault
import Derived.Laws.OwnMore
namespace Go.Proofs.YtnhojcldeloigaaGreat
open Go.RowKit

/-- Sectors set one after the other. -/
def applyL (l : List (List UInt8)) (ps : List (Nat × List UInt8)) : List (List UInt8) := ps.foldl (fun l p => l.set p.1 p.2) l
/-- Of the pending writes those that are kept. -/
def chosen : List (Nat × List UInt8) → List Bool → List (Nat × List UInt8)
  | [], _ => []
  | _ :: _, [] => []
  | p :: ps, b :: bs => if b = true then p :: chosen ps bs else chosen ps bs

theorem applyL_length (ps : List (Nat × List UInt8)) : ∀ l : List (List UInt8), (applyL l ps).length = l.length := by
  induction ps with
  | nil => intro l; rfl
  | cons p ps ih => intro l; show (applyL (l.set p.1 p.2) ps).length = _; rw [ih, List.length_set]
theorem applyL_append (l : List (List UInt8)) (ps qs : List (Nat × List UInt8)) : applyL l (ps ++ qs) = applyL (applyL l ps) qs := List.foldl_append
theorem applyL_one (l : List (List UInt8)) (ps : List (Nat × List UInt8)) (i : Nat) (x : List UInt8) : applyL l (ps ++ [(i, x)]) = (applyL l ps).set i x := by rw [applyL_append]; rfl
theorem applyL_other (ps : List (Nat × List UInt8)) : ∀ (l : List (List UInt8)) (j : Nat), (∀ p ∈ ps, p.1 ≠ j) → (applyL l ps)[j]? = l[j]? := by
  induction ps with
  | nil => intro l j _; rfl
  | cons p ps ih =>
    intro l j h
    show (applyL (l.set p.1 p.2) ps)[j]? = _
    rw [ih _ _ (fun q hq => h q (List.mem_cons_of_mem _ hq)), List.getElem?_set_ne (h p (List.mem_cons_self ..))]
theorem applyL_all {Q : List UInt8 → Prop} (ps : List (Nat × List UInt8)) : ∀ l : List (List UInt8), (∀ x ∈ l, Q x) → (∀ p ∈ ps, Q p.2) → ∀ x ∈ applyL l ps, Q x := by
  induction ps with
  | nil => intro l h _; exact h
  | cons p ps ih =>
    intro l h hp
    refine ih _ (fun x hx => ?_) (fun q hq => hp q (List.mem_cons_of_mem _ hq))
    rcases List.mem_or_eq_of_mem_set hx with hx | rfl
    · exact h x hx
    · exact hp p (List.mem_cons_self ..)
theorem chosen_mem : ∀ (ps : List (Nat × List UInt8)) (bs : List Bool), ∀ p ∈ chosen ps bs, p ∈ ps
  | [], _, p, h => by simp [chosen] at h
  | _ :: _, [], p, h => by simp [chosen] at h
  | q :: ps, b :: bs, p, h => by
    unfold chosen at h
    split at h
    · rcases List.mem_cons.1 h with rfl | h
      · exact List.mem_cons_self ..
      · exact List.mem_cons_of_mem _ (chosen_mem ps bs p h)
    · exact List.mem_cons_of_mem _ (chosen_mem ps bs p h)
/-- One write more is asked. -/
theorem chosen_step : ∀ (ps : List (Nat × List UInt8)) (bs : List Bool) (i : Nat) (h : i < ps.length), chosen (ps.take (i + 1)) bs = chosen (ps.take i) bs ++ (if bs[i]? = some true then [ps[i]] else [])
  | [], _, _, h => absurd h (by simp)
  | p :: ps, [], i, h => by cases i <;> simp [chosen]
  | p :: ps, b :: bs, 0, h => by cases b <;> simp [chosen]
  | p :: ps, b :: bs, i + 1, h => by
    have ih := chosen_step ps bs i (by simpa using h)
    simp only [List.take_succ_cons, chosen, List.getElem?_cons_succ, List.getElem_cons_succ]
    cases b
    · simpa using ih
    · simp only [if_true, List.cons_append]
      rw [ih]

structure D where
  size : Nat
  kept : List (List UInt8)
  pend : List (Nat × List UInt8)
  writes : Nat
  off : Bool
  armed : Nat
  keep : List Bool
/-- What is read. -/
def D.seen (s : D) : List (List UInt8) := applyL s.kept s.pend
theorem D.seen_length (s : D) : s.seen.length = s.kept.length := applyL_length _ _
structure D.Ok (s : D) : Prop where
  pos : 0 < s.kept.length
  most : s.kept.length ≤ 16384
  small : s.size ≤ 1024
  sect : ∀ p ∈ s.pend, p.1 < s.kept.length
  long : ∀ x ∈ s.kept, x.length = s.size
  longp : ∀ p ∈ s.pend, p.2.length = s.size
def D.cut (s : D) (keep : List Bool) : D := { s with kept := applyL s.kept (chosen s.pend keep), pend := [], off := true, armed := 0, keep := [] }
def D.put (s : D) (i : Nat) (b : List UInt8) : D := { s with armed := s.armed - 1, pend := s.pend ++ [(i, b)], writes := s.writes + 1 }
/-- What a Write answers and leaves. -/
def D.write (s : D) (i : Int) (b : List UInt8) : Int × D :=
  if s.off = true then (22, s) else if ¬ (0 ≤ i ∧ i < (s.kept.length : Int) ∧ b.length = s.size) then (1, s) else if s.armed = 1 then (22, s.cut s.keep) else (0, s.put i.toNat b)
def D.sync (s : D) : Int × D := if s.off = true then (22, s) else (0, { s with kept := s.seen, pend := [] })
def D.arm (s : D) (n : Int) (keep : List Bool) : D := { s with armed := (if n < 1 then 1 else n.toNat), keep := keep }
/-- What a Read answers. -/
def D.read (s : D) (i : Int) : Int × List UInt8 := if s.off = true then (22, []) else if 0 ≤ i ∧ i < (s.kept.length : Int) then (0, s.seen.getD i.toNat []) else (1, [])

theorem D.Ok.cut {s : D} (h : s.Ok) (keep : List Bool) : (s.cut keep).Ok := by
  have hl : (s.cut keep).kept.length = s.kept.length := applyL_length _ _
  exact ⟨by rw [hl]; exact h.pos, by rw [hl]; exact h.most, h.small, (fun p hp => absurd hp (by simp [D.cut])), applyL_all _ _ h.long (fun p hp => h.longp p (chosen_mem _ _ p hp)), (fun p hp => absurd hp (by simp [D.cut]))⟩
theorem D.Ok.put {s : D} (h : s.Ok) {i : Nat} {b : List UInt8} (hi : i < s.kept.length) (hb : b.length = s.size) : (s.put i b).Ok :=
  ⟨h.pos, h.most, h.small, (fun p hp => by
      rcases List.mem_append.1 hp with hp | hp
      · exact h.sect p hp
      · obtain rfl := List.mem_singleton.1 hp
        exact hi), h.long, (fun p hp => by
      rcases List.mem_append.1 hp with hp | hp
      · exact h.longp p hp
      · obtain rfl := List.mem_singleton.1 hp
        exact hb)⟩
theorem D.Ok.seen {s : D} (h : s.Ok) : ∀ x ∈ s.seen, x.length = s.size := applyL_all _ _ h.long h.longp
theorem D.Ok.synced {s : D} (h : s.Ok) : D.Ok { s with kept := s.seen, pend := [] } :=
  ⟨by rw [D.seen_length]; exact h.pos, by rw [D.seen_length]; exact h.most, h.small, (fun p hp => absurd hp (by simp)), h.seen, (fun p hp => absurd hp (by simp))⟩
theorem D.Ok.sync {s : D} (h : s.Ok) : s.sync.2.Ok := by
  unfold D.sync
  split
  · exact h
  · exact h.synced
theorem D.Ok.write {s : D} (h : s.Ok) (i : Int) (b : List UInt8) : (s.write i b).2.Ok := by
  unfold D.write
  split
  · exact h
  · split
    · exact h
    · split
      · exact h.cut _
      · exact h.put (by omega) (by omega)
theorem D.Ok.arm {s : D} (h : s.Ok) (n : Int) (k : List Bool) : (s.arm n k).Ok := ⟨h.pos, h.most, h.small, h.sect, h.long, h.longp⟩
theorem D.Ok.on {s : D} (h : s.Ok) : D.Ok { s with off := false } := ⟨h.pos, h.most, h.small, h.sect, h.long, h.longp⟩

/-- Sectors, writes and keeps as values. -/
def sv (l : List UInt8) : Value := .string (strOf l)
def svs (l : List (List UInt8)) : List Value := l.map sv
def wvs : List (Nat × List UInt8) → List Value
  | [] => []
  | p :: ps => .int .i64 (p.1 : Int) :: sv p.2 :: wvs ps
def bvs (l : List Bool) : List Value := l.map Value.bool
theorem svs_length (l : List (List UInt8)) : (svs l).length = l.length := by simp [svs]
theorem bvs_length (l : List Bool) : (bvs l).length = l.length := by simp [bvs]
theorem wvs_length : ∀ l : List (Nat × List UInt8), (wvs l).length = l.length * 2
  | [] => rfl
  | _ :: l => by simp [wvs, wvs_length l]; omega
theorem wvs_append : ∀ l m : List (Nat × List UInt8), wvs (l ++ m) = wvs l ++ wvs m
  | [], _ => rfl
  | _ :: l, m => by simp [wvs, wvs_append l m]
theorem wvs_get : ∀ (l : List (Nat × List UInt8)) (i : Nat) (h : i < l.length), (wvs l)[i * 2]? = some (.int .i64 (l[i].1 : Int)) ∧ (wvs l)[i * 2 + 1]? = some (sv l[i].2)
  | [], _, h => absurd h (by simp)
  | _ :: l, 0, _ => by simp [wvs]
  | _ :: l, i + 1, h => by
    have := wvs_get l i (by simpa using h)
    have e1 : (i + 1) * 2 = i * 2 + 1 + 1 := by omega
    simp only [wvs, e1, List.getElem?_cons_succ, List.getElem_cons_succ]
    exact this
theorem svs_get {l : List (List UInt8)} {i : Nat} (h : i < l.length) : (svs l)[i]? = some (sv l[i]) := by simp [svs, h]
theorem bvs_get {l : List Bool} {i : Nat} (h : i < l.length) : (bvs l)[i]? = some (.bool l[i]) := by simp [bvs, h]
theorem svs_set (l : List (List UInt8)) (i : Nat) (x : List UInt8) : svs (l.set i x) = (svs l).set i (sv x) := by simp [svs, List.map_set]
theorem svs_one (l : List (List UInt8)) : ∀ u ∈ svs l, u.oneCell' = true := by
  intro u hu
  obtain ⟨c, _, rfl⟩ := List.mem_map.1 hu
  rfl
theorem bvs_one (l : List Bool) : ∀ u ∈ bvs l, u.oneCell' = true := by
  intro u hu
  obtain ⟨c, _, rfl⟩ := List.mem_map.1 hu
  rfl
theorem wvs_one : ∀ (l : List (Nat × List UInt8)), ∀ u ∈ wvs l, u.oneCell' = true
  | [], u, hu => by simp [wvs] at hu
  | p :: l, u, hu => by
    rcases List.mem_cons.1 hu with rfl | hu
    · rfl
    · rcases List.mem_cons.1 hu with rfl | hu
      · rfl
      · exact wvs_one l u hu

/-- A slice of n elements whose cells are these; its block is one of E. -/
def RwIs (w : World) (E : Nat → Prop) (n : Nat) (x : Value) (us : List Value) : Prop :=
  ∃ A c, x = .slice A n c ∧ (0 < us.length → ∃ ad, A = some ad ∧ E ad.block ∧ ad.block < w.heap.size ∧ ∀ j u, us[j]? = some u → w.cell? (ad.add j) = some u)
section
variable {a b w : World} {S E F : Nat → Prop} {n size B : Nat} {e : TypeId} {x v : Value} {us : List Value}
theorem RwIs.only (h : RwIs a E n x us) (k : Only S a b) (hn : ∀ i, i < a.heap.size → E i → ¬ S i) : RwIs b E n x us := by
  obtain ⟨A, c, e, h3⟩ := h
  refine ⟨A, c, e, fun h0 => ?_⟩
  obtain ⟨ad, q1, q2, q3, q4⟩ := h3 h0
  refine ⟨ad, q1, q2, Nat.lt_of_lt_of_le q3 k.size, fun j u hu => ?_⟩
  exact (k.cell (by rw [addr_block]; exact q3) (by rw [addr_block]; exact hn _ q3 q2)).trans (q4 j u hu)
theorem RwIs.mono (h : RwIs w E n x us) (hs : ∀ i, i < w.heap.size → E i → F i) : RwIs w F n x us := by
  obtain ⟨A, c, e, h3⟩ := h
  refine ⟨A, c, e, fun h0 => ?_⟩
  obtain ⟨ad, q1, q2, q3, q4⟩ := h3 h0
  exact ⟨ad, q1, hs _ q3 q2, q3, q4⟩
theorem RwIs.drew (h : RwIs w E n x us) : RwIs w.drew E n x us := h
theorem RwIs.nil (w : World) (E : Nat → Prop) : RwIs w E 0 (.slice none 0 0) [] := ⟨none, 0, rfl, fun h => absurd h (by simp)⟩
theorem RwIs.of_own (h : w.ownsRow B e size v n us) : RwIs w (fun i => v.ownBlock = some i) n v us := by
  rcases id h.2 with ⟨rfl, h0⟩ | ⟨g, cap, cur, rfl, _, hg, _⟩
  · refine ⟨none, 0, by rw [h0], fun hn => ?_⟩
    have := h.1
    rw [h0, Nat.zero_mul] at this
    omega
  · exact ⟨_, cap, rfl, fun _ => ⟨_, rfl, rfl, (Array.getElem?_eq_some_iff.1 hg).1, h.cells (g := g) rfl⟩⟩
theorem owns_some (h : w.ownsRow B e size v n us) (hn : 0 < n) : ∃ g c, v = .slice (some ⟨g, 0, none⟩) n c ∧ n ≤ c ∧ c ≤ maxLen := by
  rcases id h.2 with ⟨rfl, h0⟩ | ⟨g, cap, cur, rfl, _, _, h1, h2, _⟩
  · omega
  · exact ⟨g, cap, rfl, h1, h2⟩
theorem owns_lt (h : w.ownsRow B e size v n us) {i : Nat} (hi : v.ownBlock = some i) : B ≤ i ∧ i < w.heap.size := h.lt i hi
end

theorem Tryz.infoStr : (Tryz.prog.info? 9).map (fun i => (i.zero, i.size, i.bytes)) = some (some (.string ⟨#[]⟩), 1, 16) := by kernel_rfl
theorem Tryz.infoBool : (Tryz.prog.info? 4).map (fun i => (i.zero, i.size, i.bytes)) = some (some (.bool false), 1, 1) := by kernel_rfl
theorem Tryz.infoWr : (Tryz.prog.info? 79).map (fun i => (i.zero, i.size, i.bytes)) = some (some (.agg #[.int .i64 0, .string ⟨#[]⟩]), 2, 24) := by kernel_rfl

/-- A row of strings of one's own. -/
def StrRow (w : World) (g c : Nat) (l : List (List UInt8)) : Prop := w.ownsRow 0 9 1 (.slice (some ⟨g, 0, none⟩) l.length c) l.length (svs l)
/-- A disk at block g: its rows at gk and gs, what is pending at pv, its keeps at hv. It writes in F; its keeps lie in E. -/
structure DkAt (w : World) (F E : Nat → Prop) (g : Nat) (s : D) (gk ck gs cs : Nat) (pv hv : Value) : Prop where
  has : Has w g 77 #[.int .i64 (s.size : Int), .slice (some ⟨gk, 0, none⟩) s.kept.length ck, .slice (some ⟨gs, 0, none⟩) s.kept.length cs, pv, .int .i64 (s.writes : Int), .bool s.off, .int .i64 (s.armed : Int), hv]
  kept : StrRow w gk ck s.kept
  seen : StrRow w gs cs s.seen
  pend : w.ownsRow 0 79 2 pv s.pend.length (wvs s.pend)
  keep : RwIs w E s.keep.length hv (bvs s.keep)
  ne : gk ≠ gs
  fg : F g
  fk : F gk
  fs : F gs
  fp : ∀ i, pv.ownBlock = some i → F i
  lt : ∀ i, F i → i < w.heap.size
  lte : ∀ i, E i → i < w.heap.size
  apart : ∀ i, E i → ¬ F i
  ok : s.Ok
def Dk (w : World) (F E : Nat → Prop) (g : Nat) (s : D) : Prop := ∃ gk ck gs cs pv hv, DkAt w F E g s gk ck gs cs pv hv
/-- What a call leaves of a disk. -/
def DkStep (w : World) (F E : Nat → Prop) (g : Nat) (s : D) (w' : World) : Prop :=
  ∃ F' E', Dk w' F' E' g s ∧ (∀ i, F' i → F i ∨ w.heap.size ≤ i) ∧ (∀ i, E' i → E i ∨ w.heap.size ≤ i) ∧ Only F w w'
section
variable {a b w w' : World} {S F E : Nat → Prop} {g gk ck gs cs : Nat} {s s' : D} {pv hv : Value} {l : List (List UInt8)} {c : Nat}
theorem StrRow.only (h : StrRow a g c l) (k : Only S a b) (hn : ¬ S g) : StrRow b g c l := owns_only h k (fun i hi => by
  have : g = i := by simpa [Value.ownBlock] using hi
  exact this ▸ hn)
theorem StrRow.lt (h : StrRow w g c l) : g < w.heap.size := (owns_lt h rfl).2
theorem StrRow.cell (h : StrRow w g c l) {i : Nat} (hi : i < l.length) : w.cell? ⟨g, i, none⟩ = some (sv l[i]) := by
  rw [World.ownsRow.cellAt h i (by omega)]
  exact svs_get hi
theorem StrRow.frozen (h : StrRow w g c l) (i : Nat) : w.frozen? ⟨g, i, none⟩ = false := World.ownsRow.frozenAt h i
theorem StrRow.cap (h : StrRow w g c l) : l.length ≤ c ∧ c ≤ maxLen := by
  rcases id h.2 with ⟨hn, _⟩ | ⟨g', cap, cur, he, _, _, h1, h2, _⟩
  · cases hn
  · injection he with _ _ he
    subst he
    exact ⟨h1, h2⟩
theorem StrRow.set (h : StrRow w g c l) (i : Nat) (x : List UInt8) : StrRow (w.setCell ⟨g, i, none⟩ (sv x)) g c (l.set i x) := by
  have := (World.ownsRow.stored h i (sv x)).1
  unfold StrRow
  rw [List.length_set, svs_set]
  exact this
theorem StrRow.ne_has {g' : Nat} {t : TypeId} {cs : Array Value} (h : StrRow w g c l) (hg : Has w g' t cs) (hne : 9 ≠ t) : g' ≠ g := fun e => owns_ne h hg hne (by rw [e]; rfl)
theorem DkAt.dk (h : DkAt w F E g s gk ck gs cs pv hv) : Dk w F E g s := ⟨_, _, _, _, _, _, h⟩
theorem DkAt.neK (h : DkAt w F E g s gk ck gs cs pv hv) : g ≠ gk := h.kept.ne_has h.has (by decide)
theorem DkAt.neS (h : DkAt w F E g s gk ck gs cs pv hv) : g ≠ gs := h.seen.ne_has h.has (by decide)
theorem DkAt.only (h : DkAt a F E g s gk ck gs cs pv hv) (k : Only S a b) (hn : ∀ i, i < a.heap.size → S i → ¬ F i ∧ ¬ E i) : DkAt b F E g s gk ck gs cs pv hv :=
  have q : ∀ i, F i → ¬ S i := fun i hi hS => (hn i (h.lt i hi) hS).1 hi
  ⟨h.has.only k (q _ h.fg), h.kept.only k (q _ h.fk), h.seen.only k (q _ h.fs), owns_only h.pend k (fun i hi => q i (h.fp i hi)), h.keep.only k (fun i hi hE hS => (hn i hi hS).2 hE),
    h.ne, h.fg, h.fk, h.fs, h.fp, fun i hi => Nat.lt_of_lt_of_le (h.lt i hi) k.size, fun i hi => Nat.lt_of_lt_of_le (h.lte i hi) k.size, h.apart, h.ok⟩
theorem Dk.only (h : Dk a F E g s) (k : Only S a b) (hn : ∀ i, i < a.heap.size → S i → ¬ F i ∧ ¬ E i) : Dk b F E g s := by
  obtain ⟨gk, ck, gs, cs, pv, hv, h⟩ := h
  exact (h.only k hn).dk
theorem Dk.lt (h : Dk w F E g s) : g < w.heap.size ∧ F g ∧ (∀ i, F i → i < w.heap.size) ∧ (∀ i, E i → i < w.heap.size) ∧ (∀ i, E i → ¬ F i) ∧ s.Ok := by
  obtain ⟨gk, ck, gs, cs, pv, hv, h⟩ := h
  exact ⟨h.has.lt, h.fg, h.lt, h.lte, h.apart, h.ok⟩
theorem Dk.same (h : Dk w F E g s) : DkStep w F E g s w := ⟨F, E, h, fun _ h => .inl h, fun _ h => .inl h, Only.refl _ _⟩
end
end Go.Proofs.YtnhojcldeloigaaGreat
