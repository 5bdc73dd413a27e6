/-
  The second reading's StatAll: what it answers over whatever bytes is what All answers.
-/
import Derived.Test.YtbfigbbenaoaeaaDoorRefStatB
import Derived.Maps.AppendAt
namespace Go.Proofs.YtbfigbbenaoaeaaDoor
open Go.RowKit
set_option maxRecDepth 100000

theorem tst_drop {bs : List UInt8} (h : (tst bs 0).2.2 = 0) : (tst bs 0).2.1 = bs.drop (2 + (tst bs 0).1.length) := by
  by_cases hs : bs.length < 2
  · have e := takeSt_short 2 bs (by omega) (by omega) (by omega)
    unfold tst at h
    rw [e] at h
    simp [rawSt] at h
  · have e := takeSt_long 2 bs (by omega) (by omega) (by omega)
    unfold tst at h ⊢
    rw [e] at h ⊢
    unfold rawSt at h ⊢
    simp only at h ⊢
    rw [if_neg (by simp), if_neg (by omega)] at h ⊢
    by_cases h2 : ((bs.drop (2 : Int).toNat).length : Int) < (le (bs.take (2 : Int).toNat) : Nat)
    · rw [if_pos h2] at h
      simp at h
    · rw [if_neg h2]
      simp only [List.drop_drop, List.length_take, List.length_drop] at h2 ⊢
      congr 1
      omega
theorem firstOf_drop {bs rest : List UInt8} {s : S11} (h : firstOf bs = .ok (s, rest)) : ∃ n : Nat, (bs.length : Int) - rest.length = n ∧ n ≤ bs.length ∧ rest = bs.drop n ∧ rest.length = bs.length - n := by
  obtain ⟨_, _, h0, hr⟩ := firstOf_len h
  have h1 := (tst_sum h0).1
  refine ⟨2 + (tst bs 0).1.length, ?_, by omega, ?_, ?_⟩
  · rw [hr]
    omega
  · rw [hr]
    exact tst_drop h0
  · rw [hr]
    omega

/-- At the loop's head. -/
structure RAll (w : World) (bs : List UInt8) (f : Nat) (rest : List UInt8) (L : List S11) (b v : Value) (wr : World) : Prop where
  src : SlIs wr 0 w.heap.size b rest
  own : wr.ownsRow w.heap.size 39 13 v L.length (rowsOf L)
  low : Below w.heap.size w wr
  all : allOf bs.length bs = pre L (allOf f rest)
  fuel : rest.length ≤ f
  few : 2 * L.length + rest.length ≤ bs.length
theorem Tryd.refStatInfo : (Tryd.prog.info? 39).map (fun i => (i.zero, i.size, i.bytes)) = some (some S11.zero.val, 13, 112) := by kernel_rfl
def sliceLen : Value → Nat
  | .slice _ n _ => n
  | _ => 0
theorem SlIs.wide {w : World} {lo hi hi' : Nat} {v : Value} {bs : List UInt8} (h : SlIs w lo hi v bs) (h2 : hi ≤ hi') : SlIs w lo hi' v bs := by
  obtain ⟨A, c, h1, h3, h4, h5⟩ := h
  exact ⟨A, c, h1, h3, h4, h5.wide (Nat.le_refl _) h2⟩

set_option maxHeartbeats 1000000 in
theorem statall_any (v : Value) (bs : List UInt8) (w : World) (hv : SlIs w 0 w.heap.size v bs) (hl : bs.length ≤ 100000) :
    Calls Tryd.prog 18 #[v] w (AllStep 39 w bs) := by
  have I0 : Hid (RAll w bs bs.length bs [] v (.slice none 0 0) w) := Lib.hid ⟨hv, World.ownsRow_nil _ _ _ _, Below.refl _ _, (pre_nil _).symm, Nat.le_refl _, by simp⟩
  obtain ⟨i0, hi0, hz0, hz1, hz2⟩ := info_parts Tryd.refStatInfo
  clear hv
  go_enter Tryd.func18, Tryd.ntmps18
  go_wp2_with fail
  go_loopw [0, 4] (fun b v wr => ∃ f rest L, Hid (RAll w bs f rest L b v wr)) (fun b _ _ => sliceLen b)
  case atStart => exact ⟨_, _, _, I0⟩
  case round =>
    obtain ⟨f, rest, L, hrel⟩ := hrel
    clear I0
    obtain ⟨⟨A, c, rfl, hc1, hc2, hrd⟩, iO, iK, iA, iF, iN⟩ := hrel.out
    by_cases h0 : rest = []
    · subst h0
      have R : Hid (AllStep 39 w bs (.returned (.tuple #[u4, .int .i64 0])) wr) := by
        unfold AllStep
        rw [iA, allOf_nil, pre, List.append_nil]
        exact Lib.hid ⟨u4, rfl, iO, iK⟩
      clear iO iK iA iF iN hrel hrd
      rw [List.length_nil] at *
      go_wp2
      go_ret2
      exact R.out
    · have hpos : (0 : Int) < (rest.length : Int) := by
        have : rest.length ≠ 0 := fun h => h0 (List.eq_nil_of_length_eq_zero h)
        omega
      obtain ⟨f, rfl⟩ : ∃ f', f = f' + 1 := ⟨f - 1, by omega⟩
      have sz := iK.size
      have CT := statof_any (.slice A rest.length c) rest 0 wr ⟨A, c, rfl, hc1, hc2, hrd.wide (Nat.le_refl _) sz⟩ (by omega)
      have HI := Lib.hid hrel.out
      simp only [maxLen] at hc2
      cases hr : firstOf rest with
      | error er =>
        have hda : decAns rest = (S11.zero, 0, er) := by unfold decAns; rw [hr]
        unfold DecodeStep at CT
        rw [hda] at CT
        have CT := Lib.hid CT
        have her : er ≠ 0 := by rcases firstOf_err hr with h | h <;> omega
        have hd : (er != 0) = true := by simpa using her
        have R0 : Hid (∀ w2, Below wr.heap.size wr w2 → ∀ o, AllStep 39 w bs (.returned (.tuple #[.slice none 0 0, .int .i64 er])) (w2.alloc o)) := by
          intro w2 k2 o
          unfold AllStep
          rw [iA, allOf_err h0 hr]
          have k3 := iK.trans (k2.mono iK.size)
          exact ⟨rfl, k3.alloc k3.size o⟩
        clear HI hr iO iK iA iF iN hrel hrd hda her
        unfold S11.val S11.zero S11.cells at CT
        go_wp2_with fail
        refine CT.out.mono ?_
        rintro e w2 ⟨rfl, k2⟩
        have R := Lib.hid (R0.out w2 k2)
        clear k2 R0 CT
        go_wp2
        go_ret2
        exact R.out _
      | ok p =>
        obtain ⟨s, r2⟩ := p
        obtain ⟨n, hn1, hn2, hn3, hn4⟩ := firstOf_drop hr
        have hda : decAns rest = (s, (n : Int), 0) := by unfold decAns; rw [hr]; simp only [hn1]
        unfold DecodeStep at CT
        rw [hda] at CT
        have hs2 := firstOf_shrinks hr
        have hm1 : L.length + 1 ≤ maxLen := by simp only [maxLen]; omega
        have hm2 : (L.length + 1) * 112 ≤ 140737488355328 := by omega
        have HO : Hid (∀ w2, Below wr.heap.size wr w2 → ((w2.alloc (.cells s.cells 39)).alloc (.cells s.cells 39)).ownsRow w.heap.size 39 13 u4 L.length (rowsOf L) ∧ w.heap.size ≤ w2.heap.size) := by
          intro w2 k2
          have k3 : Below wr.heap.size wr ((w2.alloc (.cells s.cells 39)).alloc (.cells s.cells 39)) := (k2.alloc k2.size _).alloc (by simp; have := k2.size; omega) _
          exact ⟨owns_only iO (Only.of_below k3) (fun i h => Nat.not_le_of_lt (iO.lt i h).2), by have := k2.size; omega⟩
        have S0 : Hid (∀ w2 w3 v3 D, Below wr.heap.size wr w2 → w3.ownsRow w.heap.size 39 13 v3 (L.length + 1) (rowsOf L ++ s.cells.toList) → ((w2.alloc (.cells s.cells 39)).alloc (.cells s.cells 39)).grownBy w3 u4.ownBlock →
            (D = if c = n then A else A.map (·.add n)) → RAll w bs f r2 (L ++ [s]) (.slice D (rest.length - n) (c - n)) v3 w3) := by
          intro w2 w3 v3 D k2 hown hgr hD
          have k3 : Below wr.heap.size wr ((w2.alloc (.cells s.cells 39)).alloc (.cells s.cells 39)) := (k2.alloc k2.size _).alloc (by simp; have := k2.size; omega) _
          have k4 : Below w.heap.size w w3 := (iK.trans (k3.mono iK.size)).grown hgr (by have := k3.size; omega) (fun i hi => (iO.lt i hi).1)
          refine ⟨?_, ?_, k4, by rw [iA, allOf_ok h0 hr], by omega, by simp; omega⟩
          · refine ⟨D, c - n, by rw [hn4], by omega, by simp only [maxLen]; omega, ?_⟩
            rw [hD, hn3]
            have kb : Only (fun i => w.heap.size ≤ i) wr w3 := ((Only.of_below k3).mono (T := fun i => w.heap.size ≤ i) (fun i hi h => by omega)).trans (Only.of_grown hgr) (fun i hi h => (iO.lt i h.symm).1)
            exact (hrd.drop hn2 hc1).only kb (by omega) (fun i _ hi h => by omega)
          · rw [List.length_append, List.length_singleton, rowsOf_snoc]
            exact hown
        clear HI hr iO iK iA iF iN hrel hrd hda hn1 hn3 
        have hwi : IntKind.i64.wrap (n : Int) = (n : Int) := IntWalk.i64_in _ (by omega)
        have hd2 : decide (n ≤ rest.length) = true := decide_eq_true (by omega)
        have CT : Hid (Calls Tryd.prog 16 #[.slice A rest.length c] wr fun e w2 => e = .returned (.tuple #[s.val, .int .i64 (n : Int), .int .i64 0]) ∧ Below wr.heap.size wr w2) := CT
        unfold S11.val S11.cells at CT
        go_wp2_with fail
        refine CT.out.mono ?_
        rintro e w2 ⟨rfl, k2⟩
        obtain ⟨o2, sz2⟩ := HO.out w2 k2
        have O2 := Lib.hid o2
        have S2 := Lib.hid (fun w3 v3 D => S0.out w2 w3 v3 D k2)
        have HN2 : Hid (∀ (j : Nat) (u : Value), s.cells.toList[j]? = some u → ((w2.alloc (.cells s.cells 39)).alloc (.cells s.cells 39)).cell? ((⟨w2.heap.size + 1, 0, none⟩ : Addr).add j) = some u) := Lib.hid (by
          have := World.news_of_block (cs := s.cells) (t := 39) (fr := (0, 0)) (heap_alloc_new (w2.alloc (.cells s.cells 39)) (.cells s.cells 39))
          simpa using this)
        obtain ⟨⟨d0, d1, d2, d3, d4⟩, ⟨d5, d6, d7, d8⟩, ⟨d9, d10, d11, d12⟩⟩ := (Has.new w2 39 s.cells).cells13
        clear o2 k2 HO S0 CT
        unfold S11.cells at d0 d1 d2 d3 d4 d5 d6 d7 d8 d9 d10 d11 d12
        go_wp2_with (at_builtin; go_must (refine wpList_append_own_at _ rfl (.tmp 20) (.tmp 22) 52 rfl w.heap.size 39 i0 _ 13 112 Tryd.underlying52 hi0 hz0 hz1 hz2 rfl (by omega) u4 L.length (rowsOf L) rfl O2.out ⟨w2.heap.size + 1, 0, none⟩ 1 1 s.cells.toList rfl (by rfl) HN2.out (fun u hu => by simpa using (Array.all_eq_true_iff_forall_mem.1 s.one) u (by simpa using hu)) hm1 hm2 (by simp; omega) ?_))
        intro v3 w3 hown hgr _ _
        have S3 := Lib.hid (fun D => S2.out w3 v3 D hown hgr)
        clear hown hgr S2 O2 d0 d1 d2 d3 d4 d5 d6 d7 d8 d9 d10 d11 d12
        go_wp2
        have R := Lib.hid (S3.out _ rfl)
        clear S3
        go_roundw
        case rel => exact ⟨f, r2, L ++ [s], R⟩
        case measure => simp only [sliceLen]; omega
end Go.Proofs.YtbfigbbenaoaeaaDoor
