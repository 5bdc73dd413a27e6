/-
  Package stat: All of whatever bytes: its records one behind the other, or the error of the first that has one.
-/
import Derived.Test.YtbfigbbenaoaeaaDoorStatG
import Derived.StillTailTactics
namespace Go.Proofs.YtbfigbbenaoaeaaDoor
open Go.RowKit
set_option maxRecDepth 100000

/-- The records of these bytes, or what is wrong with the first that has an error (at most so many). -/
def allOf : Nat → List UInt8 → Except Int (List S11)
  | 0, _ => .ok []
  | f + 1, bs => if bs = [] then .ok [] else match firstOf bs with
    | .error e => .error e
    | .ok (s, rest) => match allOf f rest with
      | .error e => .error e
      | .ok l => .ok (s :: l)
/-- Records ahead of others. -/
def pre (L : List S11) : Except Int (List S11) → Except Int (List S11)
  | .ok l => .ok (L ++ l)
  | .error e => .error e
theorem pre_nil (r : Except Int (List S11)) : pre [] r = r := by cases r <;> rfl
theorem allOf_nil (f : Nat) : allOf f [] = .ok [] := by
  cases f with
  | zero => rfl
  | succ f => rw [allOf, if_pos rfl]
theorem allOf_err {f : Nat} {bs : List UInt8} {e : Int} (h0 : bs ≠ []) (h : firstOf bs = .error e) : allOf (f + 1) bs = .error e := by rw [allOf, if_neg h0, h]
theorem allOf_ok {f : Nat} {bs rest : List UInt8} {s : S11} {L : List S11} (h0 : bs ≠ []) (h : firstOf bs = .ok (s, rest)) : pre L (allOf (f + 1) bs) = pre (L ++ [s]) (allOf f rest) := by
  rw [allOf, if_neg h0, h]
  simp only
  cases allOf f rest with
  | error e => rfl
  | ok l => simp [pre]
theorem firstOf_shrinks {bs rest : List UInt8} {s : S11} (h : firstOf bs = .ok (s, rest)) : rest.length + 2 ≤ bs.length := by
  obtain ⟨_, _, h0, hr⟩ := firstOf_len h
  have hl : (takeSt 2 bs 0).2.1.length + 2 ≤ bs.length := by
    by_cases hs : bs.length < 2
    · have e := takeSt_short 2 bs (by omega) (by omega) (by omega)
      unfold tst at h0
      rw [e] at h0
      simp [rawSt] at h0
    · rw [takeSt_long 2 bs (by omega) (by omega) (by omega)]
      simp
      omega
  rw [hr]
  unfold tst
  have := rawSt_len2 ((takeSt 2 bs 0).1 : Int) (takeSt 2 bs 0).2.1 (takeSt 2 bs 0).2.2
  omega
/-- The cells of records one behind the other. -/
def rowsOf (L : List S11) : List Value := L.flatMap fun s => s.cells.toList
theorem rowsOf_snoc (L : List S11) (s : S11) : rowsOf (L ++ [s]) = rowsOf L ++ s.cells.toList := by simp [rowsOf]
theorem Tryd.statInfo : (Tryd.prog.info? 28).map (fun i => (i.zero, i.size, i.bytes)) = some (some S11.zero.val, 13, 112) := by kernel_rfl

/-- How many bytes an In has left, as the world has it. -/
def leftIn (g : Nat) (w : World) : Nat := match w.cell? ⟨g, 0, none⟩ with
  | some (.slice _ n _) => n
  | _ => 0
theorem leftIn_of {w : World} {lo g : Nat} {bs : List UInt8} {er : Int} (h : InAt w lo g bs er) : leftIn g w = bs.length := by
  obtain ⟨A, c, h1, _⟩ := h
  have := h1.cell 0
  simp at this
  unfold leftIn
  rw [this]
/-- At the loop's head. -/
structure AllInv (w : World) (lo g ib lb : Nat) (bs : List UInt8) (f : Nat) (rest : List UInt8) (L : List S11) (v : Value) (wr : World) : Prop where
  inn : InAt wr lo g rest 0
  ptr : Has wr ib 69 #[.pointer (some ⟨g, 0, none⟩)]
  lst : Has wr lb 49 #[v]
  own : wr.ownsRow w.heap.size 28 13 v L.length (rowsOf L)
  low : Only (fun i => i = g ∨ i = lb) w wr
  all : allOf bs.length bs = pre L (allOf f rest)
  fuel : rest.length ≤ f
  few : 2 * L.length + rest.length ≤ bs.length

theorem all_step {w : World} {lo g ib lb : Nat} {bs : List UInt8} {f : Nat} {rest r2 : List UInt8} {L : List S11} {v v' : Value} {s : S11} {wr w2 w3 : World} (I : AllInv w lo g ib lb bs (f + 1) rest L v wr)
    (hg : lo ≤ g ∧ g < w.heap.size) (hlb : lb < lo) (hib : g ≠ ib) (hil : lb ≠ ib) (hibw : ib < w.heap.size) (h0 : rest ≠ []) (hr : firstOf rest = .ok (s, r2)) (i2 : InAt w2 lo g r2 0) (k2 : Only (fun i => i = g) wr w2)
    (hown : w3.ownsRow w.heap.size 28 13 v' (L.length + 1) (rowsOf L ++ s.cells.toList)) (hgr : (w2.alloc (.cells s.cells 28)).grownBy w3 v.ownBlock) :
    (w3.cell? ⟨lb, 0, none⟩ = some v ∧ w3.frozen? ⟨lb, 0, none⟩ = false) ∧ Hid (AllInv w lo g ib lb bs f r2 (L ++ [s]) v' (w3.setCell ⟨lb, 0, none⟩ v')) := by
  have sz := I.low.size
  have hvb : ∀ i, some i = v.ownBlock → w.heap.size ≤ i := by
    intro i hi
    obtain ⟨_, h | ⟨g', cap, cur, rfl, hb, _⟩⟩ := I.own
    · rw [h.1] at hi
      cases hi
    · injection hi with hi
      subst hi
      exact hb
  have k3 : Only (fun i => i = g ∨ some i = v.ownBlock) wr w3 := ((k2.mono (T := fun i => i = g ∨ some i = v.ownBlock) (fun _ _ h => .inl h)).alloc _).trans (Only.of_grown hgr) (fun _ _ h => .inr h)
  have kb : Only (fun i => w.heap.size ≤ i) w2 w3 := ((Only.refl (fun i => w.heap.size ≤ i) w2).alloc _).trans (Only.of_grown hgr) (fun i _ h => hvb i h)
  have hl3 : Has w3 lb 49 #[v] := I.lst.only k3 (fun h => by
    rcases h with h | h
    · omega
    · have := hvb _ h; omega)
  have hp3 : Has w3 ib 69 #[.pointer (some ⟨g, 0, none⟩)] := I.ptr.only k3 (fun h => by
    rcases h with h | h
    · omega
    · have := hvb _ h; omega)
  have hi3 : InAt w3 lo g r2 0 := i2.only kb (fun i _ hi h => by omega)
  have hs := firstOf_shrinks hr
  have hF := I.fuel
  have hN := I.few
  have kl : Only (fun i => i = lb) w3 (w3.setCell ⟨lb, 0, none⟩ v') := (Only.refl (fun i => i = lb) w3).setCell (p := ⟨lb, 0, none⟩) (fun _ => rfl) v'
  refine ⟨⟨by simpa using hl3.cell 0, hl3.frozen 0⟩, ?_⟩
  refine Lib.hid ⟨hi3.only kl (fun i hi _ h => by omega), hp3.only kl (by omega), by simpa using hl3.set 0 v', ?_, ?_, ?_, by omega, by simp; omega⟩
  · rw [List.length_append, List.length_singleton, rowsOf_snoc]
    refine owns_only hown kl (fun i hi h => ?_)
    obtain ⟨_, h' | ⟨g', cap, cur, rfl, hb, _⟩⟩ := hown
    · omega
    · injection hi with hi
      subst hi
      simp at h
      omega
  · refine (I.low.trans k3 (fun i hi h => ?_)).trans kl (fun i hi h => .inr h)
    rcases h with h | h
    · exact .inl h
    · have := hvb _ h; omega
  · rw [I.all, allOf_ok h0 hr]

/-- What All's function leaves in its variable. -/
def All1Step (w : World) (g lb : Nat) (r : Except Int (List S11)) (e : Ending) (w' : World) : Prop :=
  match r with
  | .ok L => e = .returned (.tuple #[]) ∧ (∃ v, Has w' lb 49 #[v] ∧ w'.ownsRow w.heap.size 28 13 v L.length (rowsOf L)) ∧ Only (fun i => i = g ∨ i = lb) w w'
  | .error er => e = .panicked [{ v := .iface 32 (.int .i64 er), recovered := false }] ∧ Only (fun i => i = g ∨ i = lb) w w'

set_option maxHeartbeats 1000000 in
theorem all1_any (lo g ib lb : Nat) (bs : List UInt8) (w : World) (hI : InAt w lo g bs 0) (hi : Has w ib 69 #[.pointer (some ⟨g, 0, none⟩)]) (hs : Has w lb 49 #[.slice none 0 0]) (hlb : lb < lo) (hT : Tabs w)
    (hg : 1 < lb ∧ 2 < lb) (hb : bs.length ≤ 100000) :
    Calls Tryd.prog 38 #[.pointer (some ⟨ib, 0, none⟩), .pointer (some ⟨lb, 0, none⟩)] w (All1Step w g lb (allOf bs.length bs)) := by
  have hgl := hI.lt
  have hig : g ≠ ib := fun h => by
    obtain ⟨A, c, h1, _⟩ := hI
    exact h1.ne hi (by decide) h
  have hil : lb ≠ ib := hs.ne hi (by decide)
  have I0 : Hid (AllInv w lo g ib lb bs bs.length bs [] (.slice none 0 0) w) := ⟨hI, hi, hs, World.ownsRow_nil _ _ _ _, Only.refl _ _, (pre_nil _).symm, Nat.le_refl _, by simp⟩
  have HT := Lib.hid hT
  obtain ⟨i0, hi0, hz0, hz1, hz2⟩ := info_parts Tryd.statInfo
  have hlbw := hs.lt
  have hibw := hi.lt
  clear hI hi hs hT
  go_enter Tryd.func38, Tryd.ntmps38
  go_wp2_with fail
  go_loopw [] (fun wr => ∃ f rest L v, Hid (AllInv w lo g ib lb bs f rest L v wr)) (fun wr => leftIn g wr)
  case atStart => exact ⟨_, _, _, _, I0⟩
  case round =>
    obtain ⟨f, rest, L, v, hrel⟩ := hrel
    clear I0
    obtain ⟨iI, iP, iL, iO, iK, iA, iF, iN⟩ := hrel.out
    have cP := iP.cell 0
    simp at cP
    by_cases h0 : rest = []
    · subst h0
      have R : Hid (All1Step w g lb (allOf bs.length bs) (.returned (.tuple #[])) wr) := by
        rw [iA, allOf_nil, pre, List.append_nil]
        exact ⟨rfl, ⟨v, iL, iO⟩, iK⟩
      have CL := Lib.hid (left_any lo g [] 0 wr iI)
      clear iI iP iL iO iK iA iF iN hrel
      go_wp2_with fail
      refine CL.out.mono ?_
      rintro e w' ⟨rfl, rfl⟩
      rw [List.length_nil]
      go_wp2
      go_end0
      exact R.out
    · have hpos : (0 : Int) < (rest.length : Int) := by
        have : rest.length ≠ 0 := fun h => h0 (List.eq_nil_of_length_eq_zero h)
        omega
      obtain ⟨f, rfl⟩ : ∃ f', f = f' + 1 := ⟨f - 1, by omega⟩
      have cL := iL.cell 0
      simp at cL
      have CL := Lib.hid (left_any lo g rest 0 wr iI)
      have hT2 : Tabs wr := HT.out.only iK (by omega) (by omega)
      have CT := Lib.hid (stattake_any lo g rest wr.drew (iI.only (Only.refl (fun _ => False) wr).drew (fun _ _ _ h => h)) (hT2.only (Only.refl (fun _ => False) wr).drew (fun h => h) (fun h => h)) (by omega) (by omega))
      have hlI := leftIn_of iI
      have HI := Lib.hid hrel.out
      clear iI iP iL iO iK iA hT2 hrel
      go_wp2_with fail
      refine CL.out.mono ?_
      rintro e w' ⟨rfl, rfl⟩
      clear CL
      cases hr : firstOf rest with
      | error er =>
        rw [hr] at CT
        have R0 : Hid (∀ w2, Only (fun i => i = g) wr.drew w2 → All1Step w g lb (allOf bs.length bs) (.panicked [{ v := .iface 32 (.int .i64 er), recovered := false }]) w2) := by
          intro w2 k2
          rw [HI.out.all, allOf_err h0 hr]
          exact ⟨rfl, HI.out.low.drew.trans k2 (fun _ _ h => .inl h)⟩
        clear HI hr
        go_wp2_with fail
        refine wp_region_held_drew (S := fun w' => w'.cell? ⟨lb, 0, none⟩ = some v ∧ w'.cell? ⟨ib, 0, none⟩ = some (.pointer (some ⟨g, 0, none⟩))) (by kernel_rfl) ?_ (fun hHeld => ?_)
        · exact ⟨cL, cP⟩
        refine takeH (i := 0) (d := 5) (v := ?_) (by kernel_rfl) (by kernel_rfl) (by kernel_rfl) rfl (fun _ _ _ h => h) (by rfl) ?_ hHeld ?_
        rotate_left
        · intro o ho w hSw
          cases ho
          go_simp
          try with_reducible rfl
        simp only [Act.put, List.setIfInBounds_toArray, List.set_cons_zero, List.set_cons_succ]
        refine takeH (i := 1) (d := 6) (v := ?_) (by kernel_rfl) (by kernel_rfl) (by kernel_rfl) rfl (fun _ _ _ h => h) (by rfl) ?_ hHeld ?_
        rotate_left
        · intro o ho w hSw
          cases ho
          go_simp
          try with_reducible rfl
        simp only [Act.put, List.setIfInBounds_toArray, List.set_cons_zero, List.set_cons_succ]
        refine wpAnyH_ready (rs := [2]) (by kernel_rfl) (by simp) ?_
        refine AllReadyH.cons rfl (fun K hK => ?_) AllReadyH.nil
        go_simp
        refine CT.out.mono ?_
        rintro e w2 ⟨rfl, k2⟩
        exact ⟨rfl, R0.out _ k2⟩
      | ok p =>
        obtain ⟨s, r2⟩ := p
        rw [hr] at CT
        have sz := HI.out.low.size
        have hm1 : L.length + 1 ≤ maxLen := by simp only [maxLen]; omega
        have hm2 : (L.length + 1) * 112 ≤ 140737488355328 := by omega
        have S0 := Lib.hid (fun w2 w3 v' (i2 : InAt w2 lo g r2 0) (k2 : Only (fun i => i = g) wr.drew w2) hown hgr => all_step (w3 := w3) (v' := v') HI.out hgl hlb hig hil hibw h0 hr i2 ((Only.refl (fun i => i = g) wr).drew.trans k2 (fun _ _ h => h)) hown hgr)
        have hs2 := firstOf_shrinks hr
        have HO : Hid (∀ w2, Only (fun i => i = g) wr.drew w2 → w2.ownsRow w.heap.size 28 13 v L.length (rowsOf L) ∧ w.heap.size ≤ w2.heap.size ∧ w2.cell? ⟨lb, 0, none⟩ = some v ∧ (w2.alloc (.cells s.cells 28)).cell? ⟨lb, 0, none⟩ = some v) := by
          intro w2 k2
          have k3 : Only (fun i => i = g) wr w2 := (Only.refl (fun i => i = g) wr).drew.trans k2 (fun _ _ h => h)
          refine ⟨owns_only HI.out.own k3 (fun i hi h => ?_), by have := k3.size; omega, (k3.cell (p := ⟨lb, 0, none⟩) HI.out.lst.lt (by simp; omega)).trans cL, ((k3.alloc _).cell (p := ⟨lb, 0, none⟩) HI.out.lst.lt (by simp; omega)).trans cL⟩
          obtain ⟨_, h' | ⟨g', cap, cur, rfl, hb, _⟩⟩ := HI.out.own
          · rw [h'.1] at hi
            cases hi
          · injection hi with hi
            subst hi
            simp at h
            omega
        clear HI hr
        unfold TakeRec S11.val S11.cells at CT
        simp only at CT
        unfold S11.cells at HO
        go_wp2_with fail
        go_region_law (first
          | (refine step_append_lies _ (by rfl) _ _ _ (by rfl) w.heap.size 28 i0 _ 13 112 Tryd.underlying49 hi0 hz0 hz1 hz2 rfl (by omega) _ _ _ (by rfl) (O2.out.alloc _) ⟨w2.heap.size, 0, none⟩ 1 1 s.cells.toList (by rfl) (by rfl) (World.news_of_block (cs := s.cells) (t := 28) (fr := (0, 0)) (heap_alloc_new w2 _)) (fun u hu => by simpa using (Array.all_eq_true_iff_forall_mem.1 s.one) u (by simpa using hu)) (by omega) hm1 hm2 (by simp; omega) (w2.heap.size + 1) (by simp) ?_; intro gg cap w3 hown1 hgrow hat hlt1; obtain ⟨⟨hc1, hf1⟩, R⟩ := S0.out w2 w3 _ I2.out K2.out hown1 hgrow; clear hown1 hgrow hat)
          | (go_simp; go_at_call 31; refine CT.out.mono ?_; rintro e w2 ⟨rfl, i2, k2⟩; obtain ⟨o2, hs2, cL2, cL3⟩ := HO.out _ k2; have O2 := Lib.hid o2; have I2 := Lib.hid i2; have K2 := Lib.hid k2; clear o2 i2 k2))
        all_goals
          go_wp2
          go_roundw
          case rel => exact ⟨f, r2, L ++ [s], _, R⟩
          case measure =>
            rw [hlI, leftIn_of R.out.inn]
            omega
end Go.Proofs.YtbfigbbenaoaeaaDoor
