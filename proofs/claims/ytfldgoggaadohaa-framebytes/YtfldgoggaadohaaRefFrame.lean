/-
  The second reading of layer 6: its stream's Feed.
-/
import Derived.Test.YtfldgoggaadohaaFrameD
import Derived.Deep.QuietTactic
import Derived.BigQuiet
namespace Go.Proofs.Ytfldgoggaadohaa
open Go.RowKit
set_option maxRecDepth 100000

theorem i64_or_nat (a b : Nat) (ha : a < 4611686018427387904) (hb : b < 4611686018427387904) : bits .or .i64 (a : Int) (b : Int) = ((a ||| b : Nat) : Int) := by
  have hx : a ||| b < 2 ^ 62 := Nat.or_lt_two_pow (by omega) (by omega)
  show IntKind.i64.wrap ((BitVec.ofInt 64 (a : Int) ||| BitVec.ofInt 64 (b : Int)).toNat : Int) = _
  rw [BitVec.toNat_or, ofInt_u64 a (by omega), ofInt_u64 b (by omega)]
  exact IntWalk.i64_in _ (by omega)
/-- One byte more, as the machine reckons it. -/
theorem or_byte64 (V k : Nat) (c : UInt8) (hk : k < 4) (hV : V < 256 ^ k) : bits .or .i64 (V : Int) ((c.toNat * 256 ^ k : Nat) : Int) = ((V + c.toNat * 256 ^ k : Nat) : Int) := by
  have hc := c.toNat_lt
  have h3 : 256 ^ k ≤ 256 ^ 3 := Nat.pow_le_pow_right (by omega) (by omega)
  have hb : c.toNat * 256 ^ k ≤ 255 * 256 ^ 3 := Nat.mul_le_mul (by omega) h3
  rw [i64_or_nat _ _ (by omega) (by omega), Nat.or_comm, nat_join (8 * k) _ _ (by rw [pow8]; exact Nat.mul_mod_left _ _) (by rw [← pow8]; exact hV), Nat.add_comm]

/-- At the loop's head. -/
structure RInv (w0 : World) (B g : Nat) (m : Int) (bs rest : List UInt8) (mv ov : Value) (xs : List (List UInt8)) (wr : World) : Prop where
  st : StAt 29 wr B g mv rest false
  fresh : ∀ i, mv.ownBlock = some i → w0.heap.size ≤ i
  ls : LsAt wr (fun i => w0.heap.size ≤ i ∧ mv.ownBlock ≠ some i) ov xs
  low : Only (fun i => i = g) w0 wr
  all : cut m bs = (xs ++ (cut m rest).1, (cut m rest).2)
  few : 7 * xs.length + rest.length ≤ bs.length

/-- Between the two appends of a round. -/
structure RMid (w0 : World) (B g : Nat) (rest : List UInt8) (mv ov : Value) (xs : List (List UInt8)) (w3 : World) : Prop where
  has : Has w3 g 29 #[mv, .bool false]
  sl : SlIs w3 0 w3.heap.size mv rest
  ls : LsAt w3 (fun i => w0.heap.size ≤ i) ov xs
  low : Only (fun i => i = g) w0 w3
  bas : B ≤ g

section
variable {w0 wr w3 w5 : World} {B g q n c : Nat} {m : Int} {bs rest : List UInt8} {mv ov ov' mv' : Value} {xs : List (List UInt8)} {us : List Value} {A : Option Addr}
theorem RInv.mid (I : RInv w0 B g m bs rest mv ov xs wr) (hmv : mv = .slice A rest.length c) (hn4 : 4 ≤ n) (hnl : n ≤ rest.length) (hc4 : ¬ c = 4) (hg : g < w0.heap.size)
    (els : Els wr (fun i => (w0.heap.size ≤ i ∧ mv.ownBlock ≠ some i) ∧ ov.ownBlock ≠ some i) us xs)
    (hown : w3.ownsRow 0 22 1 ov' (us ++ [Value.slice (A.map (·.add 4)) (n - 4) (c - 4)]).length (us ++ [Value.slice (A.map (·.add 4)) (n - 4) (c - 4)]))
    (hgr : ((wr.drewN q).alloc (.cells #[.slice (A.map (·.add 4)) (n - 4) (c - 4)] 22)).grownBy w3 ov.ownBlock) (hat : ov'.ownBlock = ov.ownBlock ∨ ov'.ownBlock = some ((wr.drewN q).alloc (.cells #[.slice (A.map (·.add 4)) (n - 4) (c - 4)] 22)).heap.size) :
    RMid w0 B g rest mv ov' (xs ++ [(rest.take n).drop 4]) w3 := by
  have hs := I.low.size
  have hsz : ((wr.drewN q).alloc (.cells #[.slice (A.map (·.add 4)) (n - 4) (c - 4)] 22)).heap.size = wr.heap.size + 1 := by simp
  have kA : Only (fun _ => False) wr ((wr.drewN q).alloc (.cells #[.slice (A.map (·.add 4)) (n - 4) (c - 4)] 22)) := ((Only.refl _ wr).drewN q).alloc _
  have hob : ∀ i, ov.ownBlock = some i → w0.heap.size ≤ i ∧ mv.ownBlock ≠ some i := by
    obtain ⟨_, _, q2, _⟩ := I.ls
    exact q2
  have k3 : Only (fun i => ov.ownBlock = some i) wr w3 := (kA.mono (T := fun i => ov.ownBlock = some i) (fun _ _ h => h.elim)).trans (Only.of_grown hgr) (fun i _ hi => hi.symm)
  have hE := ElIs.of_own I.st.own
  have hu : ElIs wr (fun i => mv.ownBlock = some i) (.slice (A.map (·.add 4)) (n - 4) (c - 4)) ((rest.take n).drop 4) := by
    rw [hmv] at hE ⊢
    have p1 := hE.head hnl
    have hl' : (rest.take n).length = n := by rw [List.length_take]; omega
    have p2 : ElIs wr (fun i => Value.ownBlock (.slice A rest.length c) = some i) (.slice A (rest.take n).length c) (rest.take n) := by rw [hl']; exact p1
    have p3 := p2.tail (k := 4) (by omega) (D := A.map (·.add 4)) (by rw [if_neg hc4])
    rw [hl'] at p3
    exact p3
  refine ⟨I.st.has.only k3 (fun e => by have := (hob _ e).1; omega), ?_, ?_, I.low.trans k3 (fun i hi e => by have := (hob i e).1; omega), I.st.low⟩
  · exact (hE.only k3 (fun i _ hi e => (hob i e).2 hi)).sl
  · refine LsAt.grow (E := fun i => w0.heap.size ≤ i) hown hgr hat (fun i hi => (hob i hi).1) (Els.only kA (fun _ _ _ h => h) (Els.mono (fun i _ hi => ⟨hi.1.1, hi.2⟩) els)) ⟨?_, trivial⟩ (by rw [hsz]; omega)
    exact (hu.mono (F := fun i => w0.heap.size ≤ i ∧ ov.ownBlock ≠ some i) (fun i _ hi => ⟨I.fresh i hi, fun e => (hob i e).2 hi⟩)).only kA (fun _ _ _ h => h)
theorem RMid.step (I : RMid w0 B g rest mv ov xs w3) (hg : g < w0.heap.size) (hall : cut m bs = (xs ++ (cut m (rest.drop n)).1, (cut m (rest.drop n)).2)) (hfew : 7 * xs.length + (rest.drop n).length ≤ bs.length)
    (hown : w5.ownsRow w3.heap.size 5 1 mv' (rest.drop n).length (b8s (rest.drop n))) (hgr : (w3.alloc (.cells #[] 5)).grownBy w5 (some w3.heap.size)) :
    (w5.cell? ⟨g, 0, none⟩ = some mv ∧ w5.frozen? ⟨g, 0, none⟩ = false) ∧ RInv w0 B g m bs (rest.drop n) mv' ov xs (w5.setCell ⟨g, 0, none⟩ mv') := by
  have hs := I.low.size
  have k5 : Only (fun i => w3.heap.size ≤ i) w3 w5 := ((Only.refl (fun i => w3.heap.size ≤ i) w3).alloc _).trans (Only.of_grown hgr) (fun i _ e => by
    injection e with e
    omega)
  have hH : Has w5 g 29 #[mv, .bool false] := I.has.only k5 (by omega)
  have kS : Only (fun i => i = g) w5 (w5.setCell ⟨g, 0, none⟩ mv') := (Only.refl (fun i => i = g) w5).setCell (p := ⟨g, 0, none⟩) (fun _ => rfl) _
  have hm : ∀ i, mv'.ownBlock = some i → w3.heap.size ≤ i := fun i hi => (hown.lt i hi).1
  refine ⟨⟨by simpa using hH.cell 0, hH.frozen 0⟩, ⟨⟨?_, ?_, I.bas⟩, fun i hi => by have := hm i hi; omega, ?_, (I.low.trans k5 (fun i hi e => by omega)).trans kS (fun _ _ e => e), hall, hfew⟩⟩
  · have := hH.set 0 mv'
    simpa using this
  · have := I.bas
    exact owns_base (owns_only hown kS (fun i hi e => by have := hm i hi; omega)) (by omega)
  · refine (((I.ls.mono (F := fun i => w0.heap.size ≤ i ∧ i < w3.heap.size) (fun i hi hE => ⟨hE, hi⟩)).only k5 (fun i _ hE e => by omega)).only kS (fun i _ hE e => by omega)).mono (fun i _ hE => ⟨hE.1, fun e => by have := hm i e; omega⟩)
end

set_option maxHeartbeats 400000 in
theorem reffeed_off (B g : Nat) (hv x : Value) (held b : List UInt8) (m : Int) (w : World) (h : StAt 29 w B g hv held true) :
    Calls Try.prog 11 #[.pointer (some ⟨g, 0, none⟩), x, .int .i64 m] w (FeedStep 29 w B g hv (feedS m held true b)) := by
  have R : Hid (FeedStep 29 w B g hv (feedS m held true b) (.returned (.slice none 0 0)) w) := ⟨_, hv, rfl, LsAt.nil _ _, h, Only.refl _ _, fun i hi => .inl hi⟩
  have c1 := h.has.cell 1
  simp at c1
  clear h
  go_enter Try.func11, Try.ntmps11
  go_wp2
  go_ret
  exact R.out

set_option maxHeartbeats 4000000 in
theorem reffeed_on (B g : Nat) (hv x : Value) (held b : List UInt8) (m : Int) (lo hi : Nat) (w : World) (h : StAt 29 w B g hv held false) (hx : SlIs w lo hi x b) (hhi : hi ≤ w.heap.size) (hl : held.length + b.length ≤ 1000000) :
    Calls Try.prog 11 #[.pointer (some ⟨g, 0, none⟩), x, .int .i64 m] w (FeedStep 29 w B g hv (feedS m held false b)) := by
  have hfe : feedS m held false b = cut m (held ++ b) := rfl
  rw [hfe]
  obtain ⟨i0, hi0, hz0, hz1, hz2⟩ := info_parts Try.info8
  obtain ⟨i1, hi1, hy0, hy1, hy2⟩ := info_parts Try.infoBytes
  have hll : (held ++ b).length = held.length + b.length := List.length_append
  have k1 : Only (fun _ => False) w (w.alloc (.cells #[] 5)) := (Only.refl _ w).alloc _
  have c1 := h.has.cell 1
  have c0 := (h.has.alloc (.cells #[] 5)).cell 0
  have hlt := h.has.lt
  simp at c1 c0
  have R1 : Hid ((w.alloc (.cells #[] 5)).ownsRow w.heap.size 5 1 (.slice (some ⟨w.heap.size, 0, none⟩) 0 0) ([] : List UInt8).length (b8s [])) := World.ownsRow_made w #[] 0 (Nat.le_refl _) (by simp [maxLen]) (by simp)
  obtain ⟨Ah, nh, ch, rfl⟩ := owns_form h.own
  have X1 := Lib.hid (hx.only k1 hhi (fun _ _ _ h => h))
  have O1 := Lib.hid ((owns_SlIs h.own).only k1 (Nat.le_refl _) (fun _ _ _ h => h))
  have HH := Lib.hid h
  clear h hx k1 hfe
  go_enter Try.func11, Try.ntmps11
  go_wp2_with (at_builtin; go_must (refine wpList_append_bytes _ rfl (.tmp 14) (.tmp 18) 22 rfl w.heap.size 5 i0 Try.underlying22 hi0 hz0 hz1 hz2 _ [] held rfl R1.out _ _ _ rfl O1.out (by simp; omega) (by simp) ?_))
  intro v2 w2 a2 g2 f2
  have K2 : Hid (Only (fun i => w.heap.size ≤ i) w w2) := ((Only.refl (fun i => w.heap.size ≤ i) w).alloc _).trans (Only.of_grown g2) (fun i _ hi => by simp [Value.ownBlock] at hi; omega)
  have A2 : Hid (w2.ownsRow w.heap.size 5 1 v2 held.length (b8s held)) := Lib.hid (by simpa using a2)
  have hs2 := K2.out.size
  have X2 := Lib.hid (X1.out.only ((Only.of_grown g2).mono (T := fun i => w.heap.size ≤ i) (fun i _ hi => by simp [Value.ownBlock] at hi; omega)) (by simp; omega) (fun i _ hi h => by omega))
  have G2 : Hid (Has w2 g 29 #[.slice Ah nh ch, .bool false]) := HH.out.has.only K2.out (by omega)
  clear a2 g2 f2 R1 O1 X1
  go_wp2_with (at_builtin; go_must (refine wpList_append_bytes _ rfl (.tmp 19) (.tmp 20) 22 rfl w.heap.size 5 i0 Try.underlying22 hi0 hz0 hz1 hz2 _ held b rfl A2.out _ _ _ rfl X2.out (by omega) hs2 ?_))
  intro v3 w3 a3 g3 f3
  have K3 : Hid (Only (fun i => w.heap.size ≤ i) w w3) := K2.out.trans (Only.of_grown g3) (fun i _ hi => (A2.out.lt i hi.symm).1)
  have hv3 : ∀ i, v3.ownBlock = some i → w.heap.size ≤ i := fun i hi => (a3.lt i hi).1
  have G3 : Has w3 g 29 #[.slice Ah nh ch, .bool false] := HH.out.has.only K3.out (by omega)
  have c3 := G3.cell 0
  have f3' := G3.frozen 0
  simp at c3
  have a3' : w3.ownsRow w.heap.size 5 1 v3 (held ++ b).length (b8s (held ++ b)) := by simpa using a3
  obtain ⟨A3, n3, c3', rfl⟩ := owns_form a3
  have I0 : Hid (RInv w B g m (held ++ b) (held ++ b) (.slice A3 n3 c3') (.slice none 0 0) [] (w3.setCell ⟨g, 0, none⟩ (.slice A3 n3 c3'))) := by
    have kS : Only (fun i => i = g) w3 (w3.setCell ⟨g, 0, none⟩ (.slice A3 n3 c3')) := (Only.refl (fun i => i = g) w3).setCell (p := ⟨g, 0, none⟩) (fun _ => rfl) _
    refine ⟨⟨?_, ?_, HH.out.low⟩, hv3, LsAt.nil _ _, (K3.out.mono (T := fun i => i = g) (fun i hi e => by omega)).trans kS (fun _ _ e => e), by simp, by simp⟩
    · have := G3.set 0 (.slice A3 n3 c3')
      simpa using this
    · have hB := HH.out.low
      refine owns_base (owns_only a3' kS (fun i hi e => by have := hv3 i hi; omega)) (by omega)
  clear a3 a3' g3 f3 K2 A2 X2 G2 K3 hv3 G3 HH c0 c1
  go_wp2_with fail
  go_loopw [7] (fun ov wr => ∃ rest mv xs, rest.length ≤ 1000000 ∧ Hid (RInv w B g m (held ++ b) rest mv ov xs wr)) (fun _ wr => match wr.cell? ⟨g, 0, none⟩ with | some (.slice _ n _) => n | _ => 0)
  case atStart => exact ⟨_, _, _, by omega, I0⟩
  case round =>
    obtain ⟨rest, mv, xs, hrl, hrel⟩ := hrel
    clear I0
    have cB := hrel.out.st.has.cell 0
    have cD := hrel.out.st.has.cell 1
    have fB := hrel.out.st.has.frozen 0
    have fD := hrel.out.st.has.frozen 1
    simp at cB cD
    obtain ⟨A, c, hmv, hc1, hc2, hrd⟩ := owns_slice hrel.out.st.own
    subst hmv
    by_cases h4 : rest.length < 4
    · have hd4 : decide ((4 : Int) ≤ (rest.length : Int)) = false := decide_eq_false (by omega)
      have R : Hid (FeedStep 29 w B g (.slice Ah nh ch) (cut m (held ++ b)) (.returned u7) wr) := by
        rw [hrel.out.all, cut_short h4, List.append_nil]
        exact ⟨u7, _, rfl, hrel.out.ls, hrel.out.st, hrel.out.low.mono (fun i _ e => .inl e), fun i hi => .inr (hrel.out.fresh i hi)⟩
      clear hrel hrd
      go_wp2
      go_ret
      exact R.out
    · have hd4 : decide ((4 : Int) ≤ (rest.length : Int)) = true := decide_eq_true (by omega)
      obtain ⟨b0, b1, b2, b3, more, hrest⟩ : ∃ b0 b1 b2 b3 more, rest = b0 :: b1 :: b2 :: b3 :: more := by
        match rest, h4 with
        | b0 :: b1 :: b2 :: b3 :: more, _ => exact ⟨b0, b1, b2, b3, more, rfl⟩
        | [], h => exact absurd (by simp) h
        | [_], h => exact absurd (by simp) h
        | [_, _], h => exact absurd (by simp) h
        | [_, _, _], h => exact absurd (by simp) h
      obtain ⟨ad, hA, hlo, hhi', hcell⟩ := hrd (by omega)
      subst hA
      have z0 : wr.cell? (ad.add 0) = some (.int .u8 (b0.toNat : Int)) := hcell 0 _ (by rw [hrest]; rfl)
      have z1 : wr.cell? (ad.add 1) = some (.int .u8 (b1.toNat : Int)) := hcell 1 _ (by rw [hrest]; rfl)
      have z2 : wr.cell? (ad.add 2) = some (.int .u8 (b2.toNat : Int)) := hcell 2 _ (by rw [hrest]; rfl)
      have z3 : wr.cell? (ad.add 3) = some (.int .u8 (b3.toNat : Int)) := hcell 3 _ (by rw [hrest]; rfl)
      have l0 := b0.toNat_lt
      have l1 := b1.toNat_lt
      have l2 := b2.toNat_lt
      have l3 := b3.toNat_lt
      have hn : hd rest = b0.toNat + 256 * (b1.toNat + 256 * (b2.toNat + 256 * b3.toNat)) := by
        rw [hrest]
        simp [hd, le]
      have x1 : (0 : Int) < (rest.length : Int) := by omega
      have x2 : (1 : Int) < (rest.length : Int) := by omega
      have x3 : (2 : Int) < (rest.length : Int) := by omega
      have x4 : (3 : Int) < (rest.length : Int) := by omega
      simp [Addr.add] at z0 z1 z2 z3
      obtain ⟨V1, hV1⟩ : ∃ V1, V1 = b0.toNat + b1.toNat * 256 := ⟨_, rfl⟩
      obtain ⟨V2, hV2⟩ : ∃ V2, V2 = V1 + b2.toNat * 65536 := ⟨_, rfl⟩
      obtain ⟨n, hnd⟩ : ∃ n, n = hd rest := ⟨_, rfl⟩
      have y1 : bits .or .i64 (b0.toNat : Int) ((b1.toNat : Int) * 256) = (V1 : Int) := by
        have q := or_byte64 b0.toNat 1 b1 (by omega) (by omega)
        rw [hV1]
        simpa using q
      have y2 : bits .or .i64 (V1 : Int) ((b2.toNat : Int) * 65536) = (V2 : Int) := by
        have q := or_byte64 V1 2 b2 (by omega) (by omega)
        rw [hV2]
        simpa using q
      have y3 : bits .or .i64 (V2 : Int) ((b3.toNat : Int) * 16777216) = (n : Int) := by
        have q := or_byte64 V2 3 b3 (by omega) (by omega)
        have e : n = V2 + b3.toNat * 16777216 := by omega
        rw [e]
        simpa using q
      have hn32 : n < 4294967296 := by rw [hnd]; exact hd_lt rest
      have HN := Lib.hid hnd
      clear hrest hcell hrd hV1 hV2 hn hnd
      go_wp2
      go_quiet (fail)
      by_cases hbad : n < 7 ∨ m < (n : Int)
      · have R : Hid (∀ q, FeedStep 29 w B g (.slice Ah nh ch) (cut m (held ++ b)) (.returned u7) (((wr.drewN q).setCell ⟨g, 1, none⟩ (.bool true)).setCell ⟨g, 0, none⟩ (.slice none 0 0))) := by
          intro q
          rw [hrel.out.all, cut_dead h4 (by rw [← HN.out]; exact hbad), List.append_nil]
          have kS : Only (fun i => i = g) wr (((wr.drewN q).setCell ⟨g, 1, none⟩ (.bool true)).setCell ⟨g, 0, none⟩ (.slice none 0 0)) :=
            (((Only.refl (fun i => i = g) wr).drewN q).setCell (p := ⟨g, 1, none⟩) (fun _ => rfl) _).setCell (p := ⟨g, 0, none⟩) (fun _ => rfl) _
          refine ⟨u7, .slice none 0 0, rfl, ?_, ⟨?_, World.ownsRow_nil _ _ _ _, hrel.out.st.low⟩, (hrel.out.low.trans kS (fun _ _ e => e)).mono (fun i _ e => .inl e), fun i hi => by cases hi⟩
          · exact (hrel.out.ls.only kS (fun i _ hE e => by omega)).mono (fun i _ hE => ⟨hE.1, fun e => by cases e⟩)
          · have hq : Has (wr.drewN q) g 29 _ := hrel.out.st.has
            have := (hq.set 1 (.bool true)).set 0 (.slice none 0 0)
            simpa using this
        clear hrel HN
        by_cases h7 : n < 7
        · have d7 : ((n : Int) < 7) := by omega
          clear hbad
          go_wp2
          go_ret
          exact R.out _
        · have d7 : ¬ ((n : Int) < 7) := by omega
          have dm : m < (n : Int) := by omega
          clear hbad
          go_wp2
          go_ret
          exact R.out _
      · have d7 : ¬ ((n : Int) < 7) := by omega
        have dm : ¬ (m < (n : Int)) := by omega
        by_cases hw : rest.length < n
        · have R : Hid (∀ q, FeedStep 29 w B g (.slice Ah nh ch) (cut m (held ++ b)) (.returned u7) (wr.drewN q)) := by
            intro q
            rw [hrel.out.all, cut_wait h4 (by rw [← HN.out]; exact hbad) (by rw [← HN.out]; exact hw), List.append_nil]
            have kS : Only (fun _ => False) wr (wr.drewN q) := (Only.refl _ wr).drewN q
            exact ⟨u7, _, rfl, hrel.out.ls.only kS (fun _ _ _ h => h), hrel.out.st.only kS (fun _ _ h => h), (hrel.out.low.trans kS (fun _ _ h => h.elim)).mono (fun i _ e => .inl e), fun i hi => .inr (hrel.out.fresh i hi)⟩
          have dl : ((rest.length : Int) < (n : Int)) := by omega
          clear hrel HN hbad
          go_wp2
          go_ret
          exact R.out _
        · have dl : ¬ ((rest.length : Int) < (n : Int)) := by omega
          have hn4 : (4 : Int) ≤ (n : Int) := by omega
          have hnc : n ≤ c := by omega
          have hc4 : ¬ c = 4 := by omega
          obtain ⟨us, hus, _, els⟩ := id hrel.out.ls
          have hul := els.len
          have hfew := hrel.out.few
          have HU : Hid (∀ q o, ((wr.drewN q).alloc o).ownsRow 0 22 1 u7 us.length us) := fun q o => owns_only hus (((Only.refl (fun _ => False) wr).drewN q).alloc o) (fun _ _ h => h)
          have hall : cut m (held ++ b) = (xs ++ [(rest.take n).drop 4] ++ (cut m (rest.drop n)).1, (cut m (rest.drop n)).2) := by
            rw [hrel.out.all, cut_one h4 (by rw [← HN.out]; exact hbad) (by rw [← HN.out]; exact hw), ← HN.out]
            simp
          have HM := Lib.hid (fun q ov' w3 hown hgr hat => RInv.mid (q := q) (n := n) (ov' := ov') (w3 := w3) hrel.out rfl (by omega) (by omega) hc4 hlt els hown hgr hat)
          have HA := Lib.hid hall
          simp only [maxLen] at hc2
          clear hrel HN hbad hus els hall
          simp only [Option.map_some] at HM
          have eA : ad.add 4 = { block := ad.block, off := ad.off + 4 } := rfl
          rw [eA] at HM
          clear eA
          go_wp2_with (at_builtin; go_must (refine wpList_append_vals _ rfl (.tmp 86) (.tmp 93) 31 rfl 0 22 i1 _ 24 Try.underlying31 hi1 hy0 hy1 hy2 rfl _ us [.slice (some { block := ad.block, off := ad.off + 4 }) (n - 4) (c - 4)] rfl (HU.out _ _) _ rfl (VsIs.one _ _ _) (by simp [Value.oneCell']) (by simp; omega) (by simp [maxLen]; omega) (by omega) ?_))
          intro ov' w3 h1 h2 h3
          have M := Lib.hid (HM.out nq ov' w3 (by rw [List.length_append, List.length_singleton, hul]; exact h1) h2 (by simpa using h3))
          have cM := (M.out.has.alloc (.cells #[] 5)).cell 0
          simp at cM
          have R4 : Hid ((w3.alloc (.cells #[] 5)).ownsRow w3.heap.size 5 1 (.slice (some ⟨w3.heap.size, 0, none⟩) 0 0) ([] : List UInt8).length (b8s [])) := World.ownsRow_made w3 #[] 0 (Nat.le_refl _) (by simp [maxLen]) (by simp)
          clear h1 h2 h3 HM HU
          by_cases hcn : c = n
          · have X4 : SlIs (w3.alloc (.cells #[] 5)) 0 w3.heap.size (.slice (some ad) (rest.length - n) 0) (rest.drop n) := by
              obtain ⟨A', c', e, q1, q2, q3⟩ := M.out.sl
              injection e with e1 _ e2
              subst e1 e2
              have q4 := q3.drop (k := n) (cap := c) (by omega) (by omega)
              rw [if_pos hcn] at q4
              have q5 : SlIs w3 0 w3.heap.size (.slice (some ad) (rest.length - n) 0) (rest.drop n) := ⟨_, _, by rw [List.length_drop], by rw [List.length_drop]; omega, by simp only [maxLen]; omega, q4⟩
              exact q5.alloc (Nat.le_refl _)
            have XX := Lib.hid X4
            clear X4
            go_wp2_with (at_builtin; go_must (refine wpList_append_bytes _ rfl (.tmp 96) (.tmp 102) 22 rfl w3.heap.size 5 i0 Try.underlying22 hi0 hz0 hz1 hz2 _ [] (rest.drop n) rfl R4.out _ _ _ rfl XX.out (by simp; omega) (by simp) ?_))
            intro mv' w5 a5 g5 _
            have a5' : w5.ownsRow w3.heap.size 5 1 mv' (rest.drop n).length (b8s (rest.drop n)) := by simpa using a5
            obtain ⟨⟨c5, f5⟩, I5⟩ := M.out.step (n := n) hlt HA.out (by rw [List.length_append, List.length_singleton, List.length_drop]; omega) a5' g5
            obtain ⟨A5, c5', hmv', _⟩ := owns_slice a5'
            rw [List.length_drop] at hmv'
            subst hmv'
            have c6 := I5.st.has.cell 0
            simp at c6
            have R := Lib.hid I5
            clear a5 a5' g5 I5 M XX R4 HA
            go_wp2
            go_roundw
            case rel => exact ⟨rest.drop n, _, _, by rw [List.length_drop]; omega, R⟩
            case measure =>
              rw [cB, c6]
              simp only
              omega
          · have X4 : SlIs (w3.alloc (.cells #[] 5)) 0 w3.heap.size (.slice (some (ad.add n)) (rest.length - n) (c - n)) (rest.drop n) := by
              obtain ⟨A', c', e, q1, q2, q3⟩ := M.out.sl
              injection e with e1 _ e2
              subst e1 e2
              have q4 := q3.drop (k := n) (cap := c) (by omega) (by omega)
              rw [if_neg hcn] at q4
              have q5 : SlIs w3 0 w3.heap.size (.slice (some (ad.add n)) (rest.length - n) (c - n)) (rest.drop n) := ⟨_, c - n, by rw [List.length_drop]; rfl, by rw [List.length_drop]; omega, by simp only [maxLen]; omega, q4⟩
              exact q5.alloc (Nat.le_refl _)
            have XX := Lib.hid X4
            clear X4
            go_wp2_with (at_builtin; go_must (refine wpList_append_bytes _ rfl (.tmp 96) (.tmp 102) 22 rfl w3.heap.size 5 i0 Try.underlying22 hi0 hz0 hz1 hz2 _ [] (rest.drop n) rfl R4.out _ _ _ rfl XX.out (by simp; omega) (by simp) ?_))
            intro mv' w5 a5 g5 _
            have a5' : w5.ownsRow w3.heap.size 5 1 mv' (rest.drop n).length (b8s (rest.drop n)) := by simpa using a5
            obtain ⟨⟨c5, f5⟩, I5⟩ := M.out.step (n := n) hlt HA.out (by rw [List.length_append, List.length_singleton, List.length_drop]; omega) a5' g5
            obtain ⟨A5, c5', hmv', _⟩ := owns_slice a5'
            rw [List.length_drop] at hmv'
            subst hmv'
            have c6 := I5.st.has.cell 0
            simp at c6
            have R := Lib.hid I5
            clear a5 a5' g5 I5 M XX R4 HA
            go_wp2
            go_roundw
            case rel => exact ⟨rest.drop n, _, _, by rw [List.length_drop]; omega, R⟩
            case measure =>
              rw [cB, c6]
              simp only
              omega

/-- The second reading's Feed, whatever comes. -/
theorem reffeed_any (B g : Nat) (hv x : Value) (held b : List UInt8) (dead : Bool) (m : Int) (lo hi : Nat) (w : World) (h : StAt 29 w B g hv held dead) (hx : SlIs w lo hi x b) (hhi : hi ≤ w.heap.size) (hl : held.length + b.length ≤ 1000000) :
    Calls Try.prog 11 #[.pointer (some ⟨g, 0, none⟩), x, .int .i64 m] w (FeedStep 29 w B g hv (feedS m held dead b)) := by
  cases dead with
  | true => exact reffeed_off B g hv x held b m w h
  | false => exact reffeed_on B g hv x held b m lo hi w h hx hhi hl
end Go.Proofs.Ytfldgoggaadohaa
