/-
  Layer 5's MsgNames: whatever number, it answers true and leaves what was there.
-/
import Derived.Test.YtepiifbleoimkaaDoorLaw5Known
namespace Go.Proofs.YtepiifbleoimkaaDoor
open Go.RowKit
set_option maxRecDepth 100000

def nCells (v : Value) : Array Value := #[.int .u8 110, .int .u16 0, .int .u32 0, .string ⟨#[]⟩, .int .u32 1, .int .u32 0, .int .u32 2, .string ⟨#[]⟩, .string ⟨#[]⟩, .string ⟨#[]⟩, .int .u16 0, v, .slice none 0 0,
  .int .u8 0, .int .u32 0, .int .u64 0, .int .u32 0, .int .u8 0, .int .u32 0, .string ⟨#[]⟩, .int .u64 0, .int .u32 0, .slice none 0 0,
  .int .u16 0, .int .u32 0, .int .u8 0, .int .u32 0, .int .u64 0, .int .u32 0, .int .u32 0, .int .u32 0, .int .u64 0, .string ⟨#[]⟩, .string ⟨#[]⟩, .string ⟨#[]⟩, .string ⟨#[]⟩]
def nM (L : List (List UInt8)) : Nat → F := upd (upd (upd (zeroM 110 0) 4 (.num 4 1)) 6 (.num 4 2)) 11 (.texts L)
def nF (L : List (List UInt8)) : List F := [.num 4 1, .num 4 2, .texts L]
theorem n_at {w : World} {lo hi : Nat} {v : Value} {L : List (List UInt8)} (h : StrsAt w lo hi v L) : MgAt w lo hi (nCells v) (nM L) :=
  (((zero_at w lo hi 110 0).set1 (.num 4, 4) (f := .num 4 1) (v := .int .u32 1) (by decide) rfl rfl (fun _ h => h)).set1 (.num 4, 6) (f := .num 4 2) (v := .int .u32 2) (by decide) rfl rfl (fun _ h => h)).set1 (.texts, 11) (f := .texts L) (v := v) (by decide) rfl rfl (fun _ hc => ⟨v, hc, h⟩)
theorem Tryd.builtN : Tryd.prog.built 33 [(0, .int .u8 110), (4, .int .u32 1), (6, .int .u32 2)] = some (nCells (.slice none 0 0)) := by kernel_rfl
theorem n_one (A : Option Addr) (n c : Nat) : (nCells (.slice A n c)).all (fun x => x.oneCell') = true := by simp [nCells, Value.oneCell']
theorem n_fields (L : List (List UInt8)) : fieldsOf (nM L) [(.num 4, 4), (.num 4, 6), (.texts, 11)] = nF L := rfl
def dees (j : Nat) : List (List UInt8) := List.replicate j [100]
theorem dees_len (j : Nat) : (dees j).length = j := List.length_replicate
theorem dees_mem {j : Nat} {l : List UInt8} (h : l ∈ dees j) : l = [100] := List.eq_of_mem_replicate h
theorem d_wrong : wrongOf [100] = 0 := by decide
theorem dees_wrong (j : Nat) : wrongL (dees j) = 0 := wrongL_of fun l hl => by rw [dees_mem hl]; exact d_wrong
theorem dees_err (j : Nat) : fErr (.texts (dees j)) = if 16 < j then 3 else 0 := by
  show (if 16 < (dees j).length then 3 else wrongL (dees j)) = _
  rw [dees_len, dees_wrong]
theorem n_err (j : Nat) : encErr 110 (nF (dees j)) = if 16 < j then 3 else 0 := by
  have h := dees_err j
  rw [encErr, if_pos (by decide), nF, fErrL, if_pos (show fErr (.num 4 1) = 0 from rfl), fErrL, if_pos (show fErr (.num 4 2) = 0 from rfl), fErrL, h]
  by_cases h16 : 16 < j
  · rw [if_pos h16]
    rfl
  · rw [if_neg h16]
    rfl
theorem n_ok {j : Nat} (hj : j ≤ 1000) : ∀ f ∈ nF (dees j), f.Ok ∧ f.Few := by
  intro f hf
  simp only [nF, List.mem_cons, List.not_mem_nil, or_false] at hf
  rcases hf with rfl | rfl | rfl
  · exact ⟨⟨by decide, by decide, by decide⟩, trivial⟩
  · exact ⟨⟨by decide, by decide, by decide⟩, trivial⟩
  · refine ⟨trivial, by rw [dees_len]; exact hj, ?_⟩
    intro l hl
    rw [dees_mem hl]
    decide
theorem dees_bytes (j : Nat) : (textsB (dees j)).length = 3 * j := by
  have h3 : (textB [100]).length = 3 := by rw [textB_length d_wrong]; rfl
  induction j with
  | zero => rfl
  | succ j ih =>
    have e : dees (j + 1) = [100] :: dees j := rfl
    have e2 : textsB ([100] :: dees j) = textB [100] ++ textsB (dees j) := by simp [textsB]
    rw [e, e2, List.length_append, ih, h3]
    omega
theorem n_len (j : Nat) : (msgB 110 0 (nF (dees j))).length = 13 + 3 * j := by
  have h := dees_bytes j
  simp only [msgB, nF, fBL, List.flatMap_cons, List.flatMap_nil, fB, List.length_append, putB_length, List.length_nil, h]
  omega
theorem n_dec {j : Nat} (h : j ≤ 16) : decM (msgB 110 0 (nF (dees j))) = some (110, 0, nF (dees j)) := by
  refine decM_item k_named (by decide) (by decide) rfl (fun f hf => (n_ok (by omega) f hf).1) ?_
  have := n_err j
  rw [encErr, if_pos (by decide), if_neg (by omega)] at this
  exact this
theorem strs_own {w : World} {B : Nat} {v : Value} {L : List (List UInt8)} (h : w.ownsRow B 9 1 v L.length (strsV L)) : ∃ A c, v = .slice A L.length c := by
  obtain ⟨A, c, hv, _⟩ := owns_strs h
  exact ⟨A, c, hv⟩
/-- At the loop's head. -/
structure NI (w : World) (mb j : Nat) (u : Value) (wr : World) : Prop where
  msg : Has wr mb 33 (nCells u)
  own : wr.ownsRow (mb + 1) 9 1 u (dees j).length (strsV (dees j))
  low : Only (fun i => w.heap.size ≤ i) w wr
theorem dees_snoc (j : Nat) : strsV (dees (j + 1)) = strsV (dees j) ++ [.string ⟨#[100]⟩] := by
  unfold strsV dees
  rw [List.replicate_succ', List.map_append]
  rfl
theorem NI.step {w wr w3 : World} {mb j : Nat} {u v' : Value} (I : NI w mb j u wr) (hmb : w.heap.size ≤ mb) (hown : w3.ownsRow (mb + 1) 9 1 v' (j + 1) (strsV (dees j) ++ [.string ⟨#[100]⟩])) (hgr : (wr.alloc (.cells #[.string ⟨#[100]⟩] 9)).grownBy w3 u.ownBlock) :
    (w3.cell? ⟨mb, 11, none⟩ = some u ∧ w3.frozen? ⟨mb, 11, none⟩ = false) ∧ Hid (NI w mb (j + 1) v' (w3.setCell ⟨mb, 11, none⟩ v')) := by
  have hnb : ∀ i, u.ownBlock = some i → mb + 1 ≤ i := fun i hi => (I.own.lt i hi).1
  have hml := I.msg.lt
  have k1 : Only (fun i => some i = u.ownBlock) wr w3 := ((Only.refl (fun i => some i = u.ownBlock) wr).alloc _).trans (Only.of_grown hgr) (fun _ _ h => h)
  have m3 : Has w3 mb 33 (nCells u) := I.msg.only k1 (fun h => by have := hnb _ h.symm; omega)
  refine ⟨⟨by rw [m3.cell 11]; rfl, m3.frozen 11⟩, m3.set 11 v', ?_, ?_⟩
  · rw [dees_len, dees_snoc]
    refine owns_only hown ((Only.refl (fun i => i = mb) w3).setCell (p := ⟨mb, 11, none⟩) (fun _ => rfl) v') (fun i hi h => ?_)
    have := (hown.lt i hi).1
    omega
  · exact (I.low.trans k1 (fun i hi h => by have := hnb i h.symm; omega)).setCell (p := ⟨mb, 11, none⟩) (fun _ => by simpa using hmb) v'

set_option maxHeartbeats 4000000 in
theorem names5_walk (n : Nat) (w : World) (hT : Tabs w) : Calls Tryd.prog 7 #[.int .u8 (n : Int)] w fun e w' => e = .returned (.bool true) ∧ Below w.heap.size w w' := by
  obtain ⟨k, hk⟩ : ∃ k, k = n % 20 := ⟨_, rfl⟩
  have hk20 : k < 20 := by omega
  have hr : IntKind.u8.wrap ((n : Int) % 20) = (k : Int) := by rw [IntWalk.u8_in _ (by omega)]; omega
  have hi6 : IntKind.i64.wrap (k : Int) = (k : Int) := IntWalk.i64_in _ (by omega)
  have hmod : (n : Int) % 20 = (k : Int) := by omega
  have C := Lib.hid (known5 w hT)
  have HT := Lib.hid hT
  obtain ⟨i0', hi0, hz0, hz1, hz2⟩ := info_parts Tryd.infoString
  clear hT hk
  go_enter Tryd.func7, Tryd.ntmps7
  go_wp2_with fail
  refine C.out.mono ?_
  rintro e w1 ⟨rfl, b1⟩
  have s1 := b1.size
  have n1 := new_setRow (w := w1) (t := 33) (cs := nCells (.slice none 0 0)) (old := zeroCells 0 0)
  have I0 : Hid (NI w w1.heap.size 0 (.slice none 0 0) ((w1.alloc (.cells (zeroCells 0 0) 33)).setRow w1.heap.size (nCells (.slice none 0 0)))) :=
    ⟨n1.1, World.ownsRow_nil _ _ _ _, ((Below.onlyNew b1).mono (fun _ _ h => h.elim)).trans n1.2 (fun _ _ h => h.elim)⟩
  clear C b1 n1
  obtain ⟨mb, hmb⟩ : ∃ mb, mb = w1.heap.size := ⟨_, rfl⟩
  go_wp2_with (first
    | (refine build_struct 33 #[(0, .const (.int .u8 110)), (4, .const (.int .u32 1)), (6, .const (.int .u32 2))] (nCells (.slice none 0 0)) rfl rfl Tryd.builtN ?_)
    | (refine store_struct Tryd.msgSize w1.heap.size (nCells (.slice none 0 0)) (.tmp 3) (.tmp 11) rfl rfl rfl rfl (Has.new w1 33 (zeroCells 0 0)) rfl rfl (n_one _ _ _) ?_)
    | fail)
  rw [← hmb] at I0 s1 ⊢
  clear hmb
  go_loopw [4] (fun i wr => ∃ (j : Nat) (u : Value), j ≤ k ∧ i = .int .i64 j ∧ Hid (NI w mb j u wr)) (fun i _ => k - (intOf i).toNat)
  case atStart => exact ⟨0, _, Nat.zero_le _, rfl, I0⟩
  case round =>
    obtain ⟨j, u, hj, rfl, hrel⟩ := hrel
    clear I0
    have hown := hrel.out.own
    obtain ⟨A, c, hu⟩ := strs_own hown
    rw [dees_len] at hu
    subst hu
    by_cases hlt : j < k
    · have i1 : (j : Int) < (k : Int) := by omega
      have c0 : wr.cell? ⟨mb, 11, none⟩ = some (.slice A j c) := by rw [hrel.out.msg.cell 11]; rfl
      have hml := hrel.out.msg.lt
      have hown2 : (wr.alloc (.cells #[.string ⟨#[100]⟩] 9)).ownsRow (mb + 1) 9 1 (.slice A j c) j (strsV (dees j)) := by
        have := owns_only hown ((Only.refl (fun _ => False) wr).alloc (.cells #[.string ⟨#[100]⟩] 9)) (fun _ _ h => h)
        rw [dees_len] at this
        exact this
      have HN := Lib.hid hown2
      have HF := Lib.hid (fun (v' : Value) (w3 : World) a b => NI.step (v' := v') (w3 := w3) hrel.out s1 a b)
      have c0' : (wr.alloc (.cells #[.string ⟨#[100]⟩] 9)).cell? ⟨mb, 11, none⟩ = some (.slice A j c) := by rw [(hrel.out.msg.alloc _).cell 11]; rfl
      clear hrel hown hown2
      go_wp2_with (at_builtin; go_must (refine wpList_append_lies _ rfl (.tmp 20) (.tmp 21) 24 rfl (mb + 1) 9 i0' _ 1 16 Tryd.underlying24 hi0 hz0 hz1 hz2 rfl (by omega) _ _ _ rfl HN.out ⟨wr.heap.size, 0, none⟩ 1 1 [.string ⟨#[100]⟩] rfl rfl (World.news_of_block (cs := #[.string ⟨#[100]⟩]) (t := 9) (fr := (0, 0)) (heap_alloc_new wr _)) (by simp [Value.oneCell']) (by omega) (by simp only [maxLen]; omega) (by omega) (by simp; omega) (wr.heap.size + 1) (by simp) ?_))
      intro gg cap w' h1 h2 _ _
      obtain ⟨⟨c1, f1⟩, R⟩ := HF.out _ w' h1 h2
      clear h1 h2 HF HN c0 c0'
      go_wp2
      go_roundw
      case rel => exact ⟨j + 1, _, by omega, by go_num, R⟩
      case measure => simp [intOf]; omega
    · have hjk : j = k := by omega
      subst hjk
      have i1 : ¬ (j : Int) < (j : Int) := by omega
      have hlow : Below w.heap.size w wr := hrel.out.low.below (Nat.le_refl _) (fun i hi h => by omega)
      have hts := HT.out.below hlow
      have hml := hrel.out.msg.lt
      have sts := owns_strs hown
      have ce := encode5_any (mb + 1) wr.heap.size 110 0 (nCells (.slice A j c)) (nF (dees j)) wr rfl rfl (fun l hl => by
        obtain rfl : l = [(.num 4, 4), (.num 4, 6), (.texts, 11)] := by rw [k_named] at hl; injection hl with hl; exact hl.symm
        exact (n_at sts).fs k_named (by rw [n_fields]; exact n_ok (by omega))) (by decide) (by decide) hts (Nat.le_refl _)
      have CE := Lib.hid ce
      have M := Lib.hid hrel.out.msg
      have LOW := Lib.hid hlow
      have HTS := Lib.hid hts
      have hsz : Hid ((nCells (.slice A j c)).size = 36) := Lib.hid rfl
      clear hrel hown hlow hts sts ce HT
      go_wp2_with (first
        | (refine load_struct Tryd.underlying33 rfl Tryd.msgSize mb (nCells (.slice A j c)) (.tmp 3) rfl rfl rfl M.out hsz.out ?_)
        | fail)
      refine CE.out.mono ?_
      intro e w2 st2
      have hne := n_err j
      rcases st2 with ⟨h0, v2, rfl, ow, b2⟩ | ⟨h0, rfl, b2⟩
      · have h16 : j ≤ 16 := by
          rw [hne] at h0
          split at h0
          · cases h0
          · omega
        have k2 := Below.onlyNew b2
        have m2 := M.out.only k2 (fun h => h)
        have c0 : w2.cell? ⟨mb, 11, none⟩ = some (.slice A j c) := by rw [m2.cell 11]; rfl
        have cd := decode5_any v2 (msgB 110 0 (nF (dees j))) _ _ w2 (owns_SlIs ow) (Nat.le_refl _) (by rw [n_len]; omega) (HTS.out.only k2 (fun h => h) (fun h => h))
        rw [n_dec h16] at cd
        have CD := Lib.hid cd
        obtain ⟨A2, x2, rfl, _⟩ := owns_slice ow
        rw [n_len] at CD ⊢
        have d16 : decide ((16 : Int) < (j : Int)) = false := decide_eq_false (by omega)
        have M2 := Lib.hid m2
        have L2 : Hid (Below w.heap.size w w2) := LOW.out.trans (b2.mono LOW.out.size)
        clear CE b2 ow k2 m2 cd M LOW HTS hne h0
        go_wp2_with fail
        refine CD.out.mono ?_
        rintro e w3 ⟨cs, rfl, hcs, b3⟩
        have k3 := Below.onlyNew b3
        obtain ⟨mx, lx, hmx, hx0, hx1, hlx, hfx, hokx⟩ := id hcs
        obtain rfl : lx = [(.num 4, 4), (.num 4, 6), (.texts, 11)] := by rw [k_named] at hlx; injection hlx with hlx; exact hlx.symm
        have h11 : mx 11 = .texts (dees j) := by
          have := congrArg (fun l => l[2]?) hfx
          simpa [fieldsOf, nF] using this
        have f11 := hmx.lies (.texts, 11) (by decide)
        rw [h11] at f11
        obtain ⟨v11, hv11, A11, c11, e11, _⟩ := f11
        rw [dees_len] at e11
        subst e11
        obtain ⟨n3, kn⟩ := new_setRow (w := w3) (t := 33) (cs := cs) (old := zeroCells 0 0)
        have HZ := Lib.hid hcs.size.1
        have HO := Lib.hid hcs.size.2
        have y0 : ((w3.alloc (.cells #[.int .u8 0, .int .u16 0, .int .u32 0, .string ⟨#[]⟩, .int .u32 0, .int .u32 0, .int .u32 0, .string ⟨#[]⟩, .string ⟨#[]⟩, .string ⟨#[]⟩, .int .u16 0, .slice none 0 0, .slice none 0 0,
  .int .u8 0, .int .u32 0, .int .u64 0, .int .u32 0, .int .u8 0, .int .u32 0, .string ⟨#[]⟩, .int .u64 0, .int .u32 0, .slice none 0 0,
  .int .u16 0, .int .u32 0, .int .u8 0, .int .u32 0, .int .u64 0, .int .u32 0, .int .u32 0, .int .u32 0, .int .u64 0, .string ⟨#[]⟩, .string ⟨#[]⟩, .string ⟨#[]⟩, .string ⟨#[]⟩] 33)).setRow w3.heap.size cs).cell? ⟨w3.heap.size, 11, none⟩ = some (.slice A11 j c11) := (n3.cell 11).trans hv11
        have y1' : ((w3.alloc (.cells (zeroCells 0 0) 33)).setRow w3.heap.size cs).cell? ⟨mb, 11, none⟩ = some (.slice A j c) := by rw [((M2.out.only k3 (fun h => h)).only kn (fun h => h)).cell 11]; rfl
        have y1 : ((w3.alloc (.cells #[.int .u8 0, .int .u16 0, .int .u32 0, .string ⟨#[]⟩, .int .u32 0, .int .u32 0, .int .u32 0, .string ⟨#[]⟩, .string ⟨#[]⟩, .string ⟨#[]⟩, .int .u16 0, .slice none 0 0, .slice none 0 0,
  .int .u8 0, .int .u32 0, .int .u64 0, .int .u32 0, .int .u8 0, .int .u32 0, .string ⟨#[]⟩, .int .u64 0, .int .u32 0, .slice none 0 0,
  .int .u16 0, .int .u32 0, .int .u8 0, .int .u32 0, .int .u64 0, .int .u32 0, .int .u32 0, .int .u32 0, .int .u64 0, .string ⟨#[]⟩, .string ⟨#[]⟩, .string ⟨#[]⟩, .string ⟨#[]⟩] 33)).setRow w3.heap.size cs).cell? ⟨mb, 11, none⟩ = some (.slice A j c) := y1'
        have R : Hid (Below w.heap.size w ((w3.alloc (.cells (zeroCells 0 0) 33)).setRow w3.heap.size cs)) := ((L2.out.trans (b3.mono L2.out.size)).trans (kn.below ((L2.out.trans (b3.mono L2.out.size)).size) (fun _ _ h => h)))
        have e3 : ((((13 + 3 * j : Nat)) : Int) == 13 + 3 * (j : Int)) = true := by simp
        have w3a : IntKind.i64.wrap (3 * (j : Int)) = 3 * (j : Int) := IntWalk.i64_in _ (by omega)
        have w3b : IntKind.i64.wrap (13 + 3 * (j : Int)) = 13 + 3 * (j : Int) := IntWalk.i64_in _ (by omega)
        clear CD b3 k3 hmx hx0 hx1 hlx hfx hokx h11 hv11 hcs n3 kn M2 L2 c0 y1'
        go_wp2_with (first
          | (refine store_struct Tryd.msgSize w3.heap.size cs (.tmp 7) (.tmp 43) rfl rfl rfl rfl (Has.new w3 33 (zeroCells 0 0)) rfl HZ.out HO.out ?_)
          | fail)
        go_ret
        exact ⟨rfl, R.out⟩
      · have h16 : 16 < j := by
          rw [hne] at h0
          split at h0
          · assumption
          · exact absurd rfl h0
        rw [hne, if_pos h16]
        have k2 := Below.onlyNew b2
        have m2 := M.out.only k2 (fun h => h)
        have c0 : w2.cell? ⟨mb, 11, none⟩ = some (.slice A j c) := by rw [m2.cell 11]; rfl
        have d16 : decide ((16 : Int) < (j : Int)) = true := decide_eq_true (by omega)
        have R : Hid (Below w.heap.size w w2) := LOW.out.trans (b2.mono LOW.out.size)
        clear CE b2 k2 m2 M LOW HTS hne h0
        go_wp2
        go_ret
        exact ⟨rfl, R.out⟩
end Go.Proofs.YtepiifbleoimkaaDoor
