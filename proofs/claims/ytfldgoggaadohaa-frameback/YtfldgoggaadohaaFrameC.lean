/-
  Package frame: the function that Feed hands to Caught: the bodies that are whole, one after the other.
-/
import Derived.Test.YtfldgoggaadohaaFrameB
import Derived.StillTailTactics
namespace Go.Proofs.Ytfldgoggaadohaa
open Go.RowKit
set_option maxRecDepth 100000

section
variable {w : World} {E : Nat → Prop} {A : Option Addr} {bs : List UInt8} {c k : Nat}
theorem ElIs.head (h : ElIs w E (.slice A bs.length c) bs) (hk : k ≤ bs.length) : ElIs w E (.slice A k c) (bs.take k) := by
  obtain ⟨A', c', e, h1, h2, h3⟩ := h
  injection e with e1 _ e2
  subst e1 e2
  have hl : (bs.take k).length = k := by rw [List.length_take]; omega
  refine ⟨A, c, by rw [hl], by omega, h2, fun h0 => ?_⟩
  obtain ⟨ad, q1, q2, q3, q4⟩ := h3 (by omega)
  refine ⟨ad, q1, q2, q3, fun j u hu => q4 j u ?_⟩
  simp only [b8s, List.getElem?_map, List.getElem?_take] at hu ⊢
  split at hu
  · exact hu
  · simp at hu
theorem ElIs.tail (h : ElIs w E (.slice A bs.length c) bs) (hk : k ≤ bs.length) {D : Option Addr} (hD : D = if c = k then A else A.map (·.add k)) : ElIs w E (.slice D (bs.length - k) (c - k)) (bs.drop k) := by
  obtain ⟨A', c', e, h1, h2, h3⟩ := h
  injection e with e1 _ e2
  subst e1 e2
  have hl : (bs.drop k).length = bs.length - k := by rw [List.length_drop]
  refine ⟨D, c - k, by rw [hl], by omega, by omega, fun h0 => ?_⟩
  obtain ⟨ad, rfl, q2, q3, q4⟩ := h3 (by omega)
  rw [if_neg (by omega)] at hD
  refine ⟨ad.add k, hD, by rw [addr_block]; exact q2, by rw [addr_block]; exact q3, fun j u hu => ?_⟩
  rw [addr_add]
  refine q4 _ u ?_
  rw [← hu]
  simp [b8s, List.getElem?_map, List.getElem?_drop]
end

theorem owns_form {w : World} {B : Nat} {e : TypeId} {size n : Nat} {v : Value} {xs : List Value} (h : w.ownsRow B e size v n xs) : ∃ A n c, v = .slice A n c := by
  rcases h.2 with ⟨rfl, _⟩ | ⟨g, cap, cur, rfl, _⟩
  · exact ⟨_, _, _, rfl⟩
  · exact ⟨_, _, _, rfl⟩
/-- At the loop's head: the bodies that are told, what is left of the road. -/
structure FInv (W : World) (R M L : Nat) (E : Nat → Prop) (v0 : Value) (bs : List UInt8) (m : Int) (cs : List (List UInt8)) (rest : List UInt8) (rv lv : Value) (wr : World) : Prop where
  road : Has wr R 22 #[rv]
  rd : ElIs wr E rv rest
  most : Has wr M 3 #[.int .i64 m]
  list : Has wr L 31 #[lv]
  ls : LsAt wr (fun i => W.heap.size ≤ i) lv cs
  low : Only (fun i => i = R ∨ i = L) W wr
  all : cut m bs = (cs ++ (cut m rest).1, (cut m rest).2)
  same : cs = [] → rv = v0 ∧ rest = bs
  few : 7 * cs.length + rest.length ≤ bs.length
/-- What is apart. -/
structure FSep (W : World) (R M L : Nat) (E : Nat → Prop) : Prop where
  r : R < W.heap.size
  m : M < W.heap.size
  l : L < W.heap.size
  rm : R ≠ M
  rl : R ≠ L
  ml : M ≠ L
  e : ∀ i, E i → i ≠ R ∧ i ≠ L ∧ i < W.heap.size

section
variable {W wr w2 w3 : World} {R M L : Nat} {E : Nat → Prop} {v0 rv lv v' u : Value} {bs rest : List UInt8} {m : Int} {cs : List (List UInt8)} {us : List Value}
theorem FInv.below (h : FInv W R M L E v0 bs m cs rest rv lv wr) (k : Below wr.heap.size wr w2) : FInv W R M L E v0 bs m cs rest rv lv w2 := by
  have q := Only.of_below k
  have hs := h.low.size
  exact ⟨h.road.only q (by have := h.road.lt; omega), h.rd.only q (fun i hi _ hn => by omega), h.most.only q (by have := h.most.lt; omega), h.list.only q (by have := h.list.lt; omega),
    h.ls.only q (fun i hi _ hn => by omega), h.low.trans q (fun i hi hn => by omega), h.all, h.same, h.few⟩
/-- One body more. -/
theorem FInv.step (h : FInv W R M L E v0 bs m cs rest rv lv wr) (s : FSep W R M L E) (hk : wholeN m rest = some (hd rest)) (h0 : 0 < hd rest) {A : Option Addr} {c : Nat} (hrv : rv = .slice A rest.length c)
    (e1 : Els wr (fun i => W.heap.size ≤ i ∧ lv.ownBlock ≠ some i) us cs)
    (k2 : Below wr.heap.size wr w2) (hu : w2.ownsRow wr.heap.size 5 1 u ((rest.take (hd rest)).drop 4).length (b8s ((rest.take (hd rest)).drop 4)))
    (hown : w3.ownsRow 0 22 1 v' (us ++ [u]).length (us ++ [u])) (hgr : (w2.alloc (.cells #[u] 22)).grownBy w3 lv.ownBlock) (hat : v'.ownBlock = lv.ownBlock ∨ v'.ownBlock = some (w2.alloc (.cells #[u] 22)).heap.size) :
    (w3.cell? ⟨L, 0, none⟩ = some lv ∧ w3.frozen? ⟨L, 0, none⟩ = false ∧ w3.cell? ⟨R, 0, none⟩ = some rv ∧ w3.frozen? ⟨R, 0, none⟩ = false) ∧
      ∀ D, (D = if c = hd rest then A else A.map (·.add (hd rest))) → FInv W R M L E v0 bs m (cs ++ [(rest.take (hd rest)).drop 4]) (rest.drop (hd rest)) (.slice D (rest.length - hd rest) (c - hd rest)) v' ((w3.setCell ⟨L, 0, none⟩ v').setCell ⟨R, 0, none⟩ (.slice D (rest.length - hd rest) (c - hd rest))) := by
  have hs := h.low.size
  have hs2 := k2.size
  have hsz : (w2.alloc (.cells #[u] 22)).heap.size = w2.heap.size + 1 := by simp
  have hlvb : ∀ i, lv.ownBlock = some i → W.heap.size ≤ i ∧ i < wr.heap.size := by
    obtain ⟨us', q1, q2, _⟩ := h.ls
    exact fun i hi => ⟨q2 i hi, (q1.lt i hi).2⟩
  -- from the head to the append
  have kA : Only (fun i => wr.heap.size ≤ i) wr (w2.alloc (.cells #[u] 22)) := (Only.of_below k2).alloc _
  have k3 : Only (fun i => lv.ownBlock = some i) wr w3 := (kA.mono (T := fun i => lv.ownBlock = some i) (fun i hi hn => by omega)).trans (Only.of_grown hgr) (fun i _ hi => hi.symm)
  have hL : Has w3 L 31 #[lv] := h.list.only k3 (fun hi => by have := hlvb _ hi; have := s.l; omega)
  have hR : Has w3 R 22 #[rv] := h.road.only k3 (fun hi => by have := hlvb _ hi; have := s.r; omega)
  have hM : Has w3 M 3 #[.int .i64 m] := h.most.only k3 (fun hi => by have := hlvb _ hi; have := s.m; omega)
  have hrd : ElIs w3 E rv rest := h.rd.only k3 (fun i hi hE hn => by have := hlvb _ hn; have := (s.e i hE).2.2; omega)
  have hu' : ElIs (w2.alloc (.cells #[u] 22)) (fun i => W.heap.size ≤ i ∧ lv.ownBlock ≠ some i) u ((rest.take (hd rest)).drop 4) := by
    have q := (ElIs.of_own hu).mono (F := fun i => W.heap.size ≤ i ∧ lv.ownBlock ≠ some i) (fun i hi hn => by
      have hb := (hu.lt i hn).1
      exact ⟨by omega, fun he => by have := hlvb _ he; omega⟩)
    exact q.only ((Only.refl (fun _ => False) w2).alloc _) (fun _ _ _ hn => hn)
  have hls : LsAt w3 (fun i => W.heap.size ≤ i) v' (cs ++ [(rest.take (hd rest)).drop 4]) :=
    LsAt.grow (a := w2.alloc (.cells #[u] 22)) hown hgr hat (fun i hi => (hlvb i hi).1) (Els.only kA (fun i hi hE hn => by omega) e1) ⟨hu', trivial⟩ (by rw [hsz]; omega)
  refine ⟨⟨by simpa using hL.cell 0, hL.frozen 0, by simpa using hR.cell 0, hR.frozen 0⟩, fun D hD => ?_⟩
  -- the two stores
  have kS : Only (fun i => i = R ∨ i = L) w3 ((w3.setCell ⟨L, 0, none⟩ v').setCell ⟨R, 0, none⟩ (.slice D (rest.length - hd rest) (c - hd rest))) :=
    ((Only.refl (fun i => i = R ∨ i = L) w3).setCell (p := ⟨L, 0, none⟩) (fun _ => .inr rfl) _).setCell (p := ⟨R, 0, none⟩) (fun _ => .inl rfl) _
  have hlen : ¬ rest.length < 4 ∧ ¬ (hd rest < 7 ∨ m < (hd rest : Int)) ∧ ¬ rest.length < hd rest := by
    unfold wholeN at hk
    split at hk
    · injection hk with hk
      omega
    · rename_i h4
      split at hk
      · cases hk
      · rename_i hb
        split at hk
        · injection hk with hk
          omega
        · rename_i hl
          exact ⟨h4, hb, hl⟩
  obtain ⟨h4, hb, hl⟩ := hlen
  refine ⟨?_, ?_, hM.only kS (fun hn => by rcases hn with hn | hn; exact s.rm hn.symm; exact s.ml hn), ?_, ?_, ?_, ?_, ?_, ?_⟩
  · have := (hR.far (p := ⟨L, 0, none⟩) (by exact s.rl) v').set 0 (.slice D (rest.length - hd rest) (c - hd rest))
    simpa using this
  · subst hrv
    exact (hrd.tail (by omega) hD).only kS (fun i _ hE hn => by have := s.e i hE; omega)
  · have := (hL.set 0 v').far (p := ⟨R, 0, none⟩) (by exact s.rl.symm) (.slice D (rest.length - hd rest) (c - hd rest))
    simpa using this
  · exact hls.only kS (fun i _ hE hn => by have := s.r; have := s.l; omega)
  · exact (h.low.trans k3 (fun i hi hn => by have := hlvb _ hn; omega)).trans kS (fun _ _ hn => hn)
  · rw [h.all, cut_one h4 hb hl]
    simp
  · intro hn
    simp at hn
  · have := h.few
    simp only [List.length_append, List.length_cons, List.length_nil, List.length_drop]
    omega
end

/-- What Feed's function leaves: the bodies, the road; or the death. -/
def Feed1Step (W : World) (R L : Nat) (E : Nat → Prop) (v0 : Value) (r : List (List UInt8) × List UInt8 × Bool) (e : Ending) (w' : World) : Prop :=
  (e = if r.2.2 = true then .panicked [{ v := .iface 36 (.int .i64 2), recovered := false }] else .returned (.tuple #[])) ∧
    ∃ rv lv, Has w' R 22 #[rv] ∧ (r.2.2 = false → ElIs w' E rv r.2.1) ∧ (r.2.2 = false → r.1 = [] → rv = v0) ∧ Has w' L 31 #[lv] ∧ LsAt w' (fun i => W.heap.size ≤ i) lv r.1 ∧ Only (fun i => i = R ∨ i = L) W w'

section
variable {W wr : World} {R M L : Nat} {E : Nat → Prop} {v0 rv lv : Value} {bs rest : List UInt8} {m : Int} {cs : List (List UInt8)}
theorem FInv.ends (h : FInv W R M L E v0 bs m cs rest rv lv wr) (hk : wholeN m rest = some 0) : Feed1Step W R L E v0 (cut m bs) (.returned (.tuple #[])) wr := by
  have e : cut m rest = ([], rest, false) := by
    unfold wholeN at hk
    split at hk
    · rename_i h4
      exact cut_short h4
    · rename_i h4
      split at hk
      · cases hk
      · rename_i hb
        split at hk
        · rename_i hl
          exact cut_wait h4 hb hl
        · injection hk with hk
          omega
  have e2 := h.all
  rw [e, List.append_nil] at e2
  rw [e2]
  exact ⟨rfl, rv, lv, h.road, fun _ => h.rd, fun _ hc => (h.same hc).1, h.list, h.ls, h.low⟩
theorem FInv.dies (h : FInv W R M L E v0 bs m cs rest rv lv wr) (hk : wholeN m rest = none) : Feed1Step W R L E v0 (cut m bs) (.panicked [{ v := .iface 36 (.int .i64 2), recovered := false }]) wr := by
  have e : cut m rest = ([], [], true) := by
    unfold wholeN at hk
    split at hk
    · cases hk
    · rename_i h4
      split at hk
      · rename_i hb
        exact cut_dead h4 hb
      · split at hk <;> cases hk
  have e2 := h.all
  rw [e, List.append_nil] at e2
  rw [e2]
  exact ⟨rfl, rv, lv, h.road, (fun hn => by cases hn), (fun hn => by cases hn), h.list, h.ls, h.low⟩
theorem wholeN_pos {k : Nat} (h : wholeN m rest = some k) (h0 : 0 < k) : k = hd rest ∧ 7 ≤ k ∧ k ≤ rest.length := by
  unfold wholeN at h
  split at h
  · injection h with h
    omega
  · split at h
    · cases h
    · split at h
      · injection h with h
        omega
      · injection h with h
        omega
end

set_option maxHeartbeats 2000000 in
theorem feed1_any (W : World) (R M L : Nat) (E : Nat → Prop) (v0 : Value) (bs : List UInt8) (m : Int) (s : FSep W R M L E) (hR : Has W R 22 #[v0]) (hv : ElIs W E v0 bs) (hM : Has W M 3 #[.int .i64 m])
    (hL : Has W L 31 #[.slice none 0 0]) (hl : bs.length ≤ 1000000) :
    Calls Try.prog 19 #[.pointer (some ⟨R, 0, none⟩), .pointer (some ⟨M, 0, none⟩), .pointer (some ⟨L, 0, none⟩)] W (Feed1Step W R L E v0 (cut m bs)) := by
  have I0 : FInv W R M L E v0 bs m [] bs v0 (.slice none 0 0) W := ⟨hR, hv, hM, hL, LsAt.nil _ _, Only.refl _ _, by simp, fun _ => ⟨rfl, rfl⟩, by simp⟩
  have cR := hR.cell 0
  have cM := hM.cell 0
  simp at cR cM
  have C0 := Lib.hid (whole_any v0 bs 0 W.heap.size m W hv.sl (Nat.le_refl _) hl)
  have H0 := Lib.hid I0
  have HS := Lib.hid s
  obtain ⟨i0, hi0, hz0, hz1, hz2⟩ := info_parts Try.infoBytes
  obtain ⟨A0, c0, rfl, _⟩ := hv
  clear I0 hR hM hL s
  go_enter Try.func19, Try.ntmps19
  go_wp2_with fail
  refine C0.out.mono ?_
  intro e w1 st
  clear C0
  cases hw : wholeN m bs with
  | none =>
    rw [hw] at st
    obtain ⟨rfl, b1⟩ := st
    have R0 := Lib.hid ((H0.out.below b1).dies hw)
    clear H0 b1 hw
    go_wp2
    exact ⟨rfl, R0.out⟩
  | some n0 =>
    rw [hw] at st
    obtain ⟨rfl, b1⟩ := st
    have I1 : Hid (FInv W R M L E (.slice A0 bs.length c0) bs m [] bs (.slice A0 bs.length c0) (.slice none 0 0) w1 ∧ wholeN m bs = some n0) := ⟨H0.out.below b1, hw⟩
    clear H0 b1 hw cR cM
    go_wp2_with fail
    go_loopw [3] (fun i wr => ∃ cs rest rv lv, ∃ n : Nat, i = .int .i64 n ∧ rest.length ≤ 1000000 ∧ Hid (FInv W R M L E (.slice A0 bs.length c0) bs m cs rest rv lv wr ∧ wholeN m rest = some n)) (fun _ wr => match wr.cell? ⟨R, 0, none⟩ with | some (.slice _ n _) => n | _ => 0)
    case atStart => exact ⟨_, _, _, _, n0, rfl, hl, I1⟩
    case round =>
      obtain ⟨cs, rest, rv, lv, n, rfl, hrl, hrel⟩ := hrel
      clear I1
      obtain ⟨I, hn⟩ := hrel.out
      by_cases hz : n = 0
      · subst hz
        have R0 := Lib.hid (I.ends hn)
        clear I hn hrel
        go_wp2
        go_end0
        exact R0.out
      · obtain ⟨hnd, h7, hnl⟩ := wholeN_pos hn (by omega)
        obtain ⟨A, c, rfl, hc1, hc2, _⟩ := id I.rd
        simp only [maxLen] at hc2
        have hpos : (0 : Int) < (n : Int) := by omega
        have cR := I.road.cell 0
        have cM := I.most.cell 0
        have cL := I.list.cell 0
        simp at cR cM cL
        have hc4 : ¬ (c = 4) := by omega
        obtain ⟨us, hus, hE, els⟩ := id I.ls
        have hfew := I.few
        have hul := els.len
        -- the copy
        have hb : ElIs wr E (.slice (A.map (·.add 4)) (n - 4) (c - 4)) ((rest.take n).drop 4) := by
          have q := I.rd.head hnl
          have hl' : (rest.take n).length = n := by rw [List.length_take]; omega
          have q2 : ElIs wr E (.slice A (rest.take n).length c) (rest.take n) := by rw [hl']; exact q
          have q3 := q2.tail (k := 4) (by omega) (D := A.map (·.add 4)) (by rw [if_neg hc4])
          rw [hl'] at q3
          exact q3
        have hbl : ((rest.take n).drop 4).length = n - 4 := by rw [List.length_drop, List.length_take]; omega
        have CC := Lib.hid (cloneb_any (.slice (A.map (·.add 4)) (n - 4) (c - 4)) ((rest.take n).drop 4) 0 wr.heap.size wr.drew (hb.sl.only (Only.refl (fun _ => False) wr).drew (Nat.le_refl _) (fun _ _ _ h => h)) (Nat.le_refl _) (by omega))
        have HU : Hid (∀ w2, Below wr.heap.size wr.drew w2 → (w2.ownsRow 0 22 1 lv us.length us ∧ w2.cell? ⟨L, 0, none⟩ = some lv ∧ w2.cell? ⟨R, 0, none⟩ = some (.slice A rest.length c) ∧ ∀ o, (w2.alloc o).cell? ⟨L, 0, none⟩ = some lv)) := by
          intro w2 k2
          have q : Only (fun i => wr.heap.size ≤ i) wr w2 := (Only.refl (fun i => wr.heap.size ≤ i) wr).drew.trans (Only.of_below k2) (fun _ _ h => h)
          exact ⟨owns_only hus q (fun i hi h => by have := (hus.lt i hi).2; omega), (q.cell (p := ⟨L, 0, none⟩) I.list.lt (by have := I.list.lt; simp; omega)).trans cL, (q.cell (p := ⟨R, 0, none⟩) I.road.lt (by have := I.road.lt; simp; omega)).trans cR, fun o => ((q.alloc o).cell (p := ⟨L, 0, none⟩) I.list.lt (by have := I.list.lt; simp; omega)).trans cL⟩
        have HSt := Lib.hid (fun w2 w3 v' u (k2 : Below wr.heap.size wr.drew w2) hu hown hgr hat => FInv.step (w2 := w2) (w3 := w3) (v' := v') (u := u) I HS.out (hnd ▸ hn) (by omega) rfl els ⟨k2.os, k2.tape, k2.output, k2.size, k2.block⟩ hu hown hgr hat)
        rw [← hnd] at HSt
        have hnc : n ≤ c := by omega
        have hn4 : (4 : Int) ≤ (n : Int) := by omega
        have eA : A.map (·.add 4) = Option.map (fun x => { block := x.block, off := x.off + 4 }) A := rfl
        rw [eA] at CC
        clear eA hnd
        have hrs := HS.out.rl
        have hrs' : ¬ (L = R) := fun h => hrs h.symm
        have hsz := I.low.size
        clear I hn hrel hus hE els hb
        go_wp2_with fail
        go_region_law (first
          | (refine step_append_vals _ (by rfl) _ _ _ (by rfl) 0 22 i0 _ 24 Try.underlying31 hi0 hz0 hz1 hz2 rfl _ us [.slice Au nu cu] (by rfl) (O2.out.alloc _) _ (by rfl) (VsIs.one _ _ _) (by simp [Value.oneCell']) (by simp; omega) (by simp [maxLen]; omega) (by omega) ?_; intro v' w3 hown1 hgrow hat; obtain ⟨Av, nv, cv, rfl⟩ := owns_form hown1; obtain ⟨⟨hcL1, hfL1, hcR1, hfR1⟩, hI⟩ := HSt.out w2 w3 _ _ K2.out U2.out hown1 hgrow hat; have HI := Lib.hid hI; clear hown1 hgrow hat hI)
          | (go_simp; go_at_call 17; refine CC.out.mono ?_; rintro e w2 ⟨u, rfl, u2, k2⟩; obtain ⟨Au, nu, cu, rfl⟩ := owns_form u2; obtain ⟨o2, cL2, cR2, aL2⟩ := HU.out _ k2; have cL3 := aL2 (.cells #[.slice Au nu cu] 22); clear aL2; have O2 := Lib.hid o2; have U2 := Lib.hid u2; have K2 := Lib.hid k2; clear o2 u2 k2))
        all_goals
          by_cases hcn : c = n
          · have I5 := HI.out A (by rw [if_pos hcn])
            rw [show c - n = 0 from by omega] at I5
            obtain ⟨rest', hre⟩ : ∃ r, r = rest.drop n := ⟨_, rfl⟩
            have hrl' : rest'.length = rest.length - n := by rw [hre, List.length_drop]
            rw [← hre] at I5
            have c5R := I5.road.cell 0
            have c5M := I5.most.cell 0
            simp at c5R c5M
            have C5 := Lib.hid (whole_any _ rest' 0 _ m _ I5.rd.sl (Nat.le_refl _) (by omega))
            have H5 := Lib.hid I5
            clear I5 HI HSt HU CC hre O2 U2 K2
            go_wp2_with fail
            refine C5.out.mono ?_
            intro e w6 st
            cases hw : wholeN m rest' with
            | none =>
              rw [hw] at st
              obtain ⟨rfl, b6⟩ := st
              have R0 := Lib.hid ((H5.out.below b6).dies hw)
              clear H5 b6 hw C5 c5R c5M
              go_wp2
              exact ⟨rfl, R0.out⟩
            | some n6 =>
              rw [hw] at st
              obtain ⟨rfl, b6⟩ := st
              have I6 := H5.out.below b6
              have c6 := I6.road.cell 0
              simp at c6
              have R0 : Hid (FInv W R M L E (.slice A0 bs.length c0) bs m _ rest' _ _ w6 ∧ wholeN m rest' = some n6) := ⟨I6, hw⟩
              clear H5 b6 hw C5 c5R c5M I6
              go_wp2
              go_roundw
              case rel => exact ⟨_, rest', _, _, n6, rfl, by omega, R0⟩
              case measure =>
                rw [cR, c6]
                simp only
                omega
          · have I5 := HI.out (A.map (·.add n)) (by rw [if_neg hcn])
            obtain ⟨rest', hre⟩ : ∃ r, r = rest.drop n := ⟨_, rfl⟩
            have hrl' : rest'.length = rest.length - n := by rw [hre, List.length_drop]
            rw [← hre] at I5
            have c5R := I5.road.cell 0
            have c5M := I5.most.cell 0
            simp at c5R c5M
            have C5 := Lib.hid (whole_any _ rest' 0 _ m _ I5.rd.sl (Nat.le_refl _) (by omega))
            have H5 := Lib.hid I5
            clear I5 HI HSt HU CC hre O2 U2 K2
            go_wp2_with fail
            refine C5.out.mono ?_
            intro e w6 st
            cases hw : wholeN m rest' with
            | none =>
              rw [hw] at st
              obtain ⟨rfl, b6⟩ := st
              have R0 := Lib.hid ((H5.out.below b6).dies hw)
              clear H5 b6 hw C5 c5R c5M
              go_wp2
              exact ⟨rfl, R0.out⟩
            | some n6 =>
              rw [hw] at st
              obtain ⟨rfl, b6⟩ := st
              have I6 := H5.out.below b6
              have c6 := I6.road.cell 0
              simp at c6
              have R0 : Hid (FInv W R M L E (.slice A0 bs.length c0) bs m _ rest' _ _ w6 ∧ wholeN m rest' = some n6) := ⟨I6, hw⟩
              clear H5 b6 hw C5 c5R c5M I6
              go_wp2
              go_roundw
              case rel => exact ⟨_, rest', _, _, n6, rfl, by omega, R0⟩
              case measure =>
                rw [cR, c6]
                simp only
                omega
end Go.Proofs.Ytfldgoggaadohaa
