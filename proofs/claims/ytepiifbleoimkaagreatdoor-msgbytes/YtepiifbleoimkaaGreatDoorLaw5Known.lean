/-
  Layer 5's example: a walk there and back, an error.
-/
import Derived.Test.YtepiifbleoimkaaGreatDoorMsgR
namespace Go.Proofs.YtepiifbleoimkaaGreatDoor
open Go.RowKit
set_option maxRecDepth 100000

/-- A message in bytes, and back. -/
theorem decM_item {t tag : Nat} {l : List (K × Nat)} {fs : List F} (hl : namedOf t = some l) (ht : t < 256) (htag : tag < 65536) (hk : fs.map F.kind = l.map (·.1)) (hok : ∀ f ∈ fs, f.Ok) (h0 : fErrL fs = 0) : decM (msgB t tag fs) = some (t, tag, fs) := by
  have e := tkL_item [] fs hok h0
  rw [List.append_nil, hk] at e
  unfold decM msgB
  rw [tkN_item _ (by omega) (by omega) (by omega), Option.bind_some]
  simp only
  rw [tkN_item _ (by omega) (by omega) (by omega), Option.bind_some, hl, Option.bind_some]
  simp only
  rw [e]
  rfl
/-- A field of one cell stored. -/
theorem MgAt.set1 {w : World} {lo hi : Nat} {cs : Array Value} {m : Nat → F} (p : K × Nat) {f : F} {v : Value} (h : MgAt w lo hi cs m) (hp : p ∈ places) (hs : p.1.size = 1) (hf : f.kind = p.1) (ha : ∀ cs' : Array Value, cs'[p.2]? = some v → FAt w lo hi cs' p.2 f) :
    MgAt w lo hi (cs.setIfInBounds p.2 v) (upd m p.2 f) :=
  h.put hp hf (Nat.le_refl _) (by simp) (fun _ _ _ => rfl) (ha _ (set_in (by have := places_in p hp; have := h.size; omega) v)) (fun i hi => set_out (by omega) v)
/-- The example: a walk. -/
def kCells (v : Value) : Array Value := #[.int .u8 110, .int .u16 7, .int .u32 0, .string ⟨#[]⟩, .int .u32 1, .int .u32 0, .int .u32 2, .string ⟨#[]⟩, .string ⟨#[]⟩, .string ⟨#[]⟩, .int .u16 0, v, .slice none 0 0,
  .int .u8 0, .int .u32 0, .int .u64 0, .int .u32 0, .int .u8 0, .int .u32 0, .string ⟨#[]⟩, .int .u64 0, .int .u32 0, .slice none 0 0,
  .int .u16 0, .int .u32 0, .int .u8 0, .int .u32 0, .int .u64 0, .int .u32 0, .int .u32 0, .int .u32 0, .int .u64 0, .string ⟨#[]⟩, .string ⟨#[]⟩, .string ⟨#[]⟩, .string ⟨#[]⟩]
def kM : Nat → F := upd (upd (upd (zeroM 110 7) 4 (.num 4 1)) 6 (.num 4 2)) 11 (.texts [[97], [98]])
def kF : List F := [.num 4 1, .num 4 2, .texts [[97], [98]]]
theorem k_at {w : World} {lo hi : Nat} {v : Value} (h : StrsAt w lo hi v [[97], [98]]) : MgAt w lo hi (kCells v) kM :=
  (((zero_at w lo hi 110 7).set1 (.num 4, 4) (f := .num 4 1) (v := .int .u32 1) (by decide) rfl rfl (fun _ h => h)).set1 (.num 4, 6) (f := .num 4 2) (v := .int .u32 2) (by decide) rfl rfl (fun _ h => h)).set1 (.texts, 11) (f := .texts [[97], [98]]) (v := v) (by decide) rfl rfl (fun _ hc => ⟨v, hc, h⟩)
theorem Tryz.builtK (A : Option Addr) (n c : Nat) : Tryz.prog.built 34 [(0, .int .u8 110), (1, .int .u16 7), (4, .int .u32 1), (6, .int .u32 2), (11, .slice A n c)] = some (kCells (.slice A n c)) := by kernel_rfl
theorem k_named : namedOf 110 = some [(.num 4, 4), (.num 4, 6), (.texts, 11)] := rfl
theorem k_fields : fieldsOf kM [(.num 4, 4), (.num 4, 6), (.texts, 11)] = kF := rfl
theorem k_wrong : wrongL [[97], [98]] = 0 := by decide
theorem k_err : fErrL kF = 0 := by
  have h : fErr (.texts [[97], [98]]) = 0 := by
    show (if 16 < [[(97 : UInt8)], [98]].length then 3 else wrongL [[97], [98]]) = 0
    rw [if_neg (by decide)]
    exact k_wrong
  rw [kF, fErrL, if_pos (show fErr (.num 4 1) = 0 from rfl), fErrL, if_pos (show fErr (.num 4 2) = 0 from rfl), fErrL, if_pos h]
  rfl
theorem k_ok : ∀ f ∈ kF, f.Ok ∧ f.Few := by
  intro f hf
  simp only [kF, List.mem_cons, List.not_mem_nil, or_false] at hf
  rcases hf with rfl | rfl | rfl
  · exact ⟨⟨by decide, by decide, by decide⟩, trivial⟩
  · exact ⟨⟨by decide, by decide, by decide⟩, trivial⟩
  · refine ⟨trivial, by decide, ?_⟩
    intro l hl
    simp only [List.mem_cons, List.not_mem_nil, or_false] at hl
    rcases hl with rfl | rfl <;> decide
theorem k_encErr : encErr 110 kF = 0 := by rw [encErr, if_pos (by decide), k_err]
theorem k_dec : decM (msgB 110 7 kF) = some (110, 7, kF) := decM_item k_named (by decide) (by decide) rfl (fun f hf => (k_ok f hf).1) k_err
theorem k_few : ∀ p ∈ places, (kM p.2).Few := by
  intro p hp
  have hz := zeroF_ok (t := 110) (tag := 7) (by decide) (by decide) p hp
  have hk := k_ok (.texts [[97], [98]]) (by simp [kF])
  unfold kM upd
  split
  · exact hk.2
  · split
    · exact trivial
    · split
      · exact trivial
      · exact hz.2
theorem k_one (A : Option Addr) (n c : Nat) : (kCells (.slice A n c)).all (fun x => x.oneCell') = true := by simp [kCells, Value.oneCell']
theorem k_106 : encErr 106 [] = 2 := by rw [encErr, if_neg (by decide)]
theorem k_short : decM [110, 7, 0, 1, 0] = none := rfl
theorem k_len : (msgB 110 7 kF).length ≤ 100000 := by
  have h := fBL_len kF k_err (fun f hf => (k_ok f hf).1)
  simp only [msgB, List.length_append, putB_length]
  have : kF.length = 3 := rfl
  omega
theorem new_setRow {w : World} {t : TypeId} {cs old : Array Value} : Has ((w.alloc (.cells old t)).setRow w.heap.size cs) w.heap.size t cs ∧ Only (fun _ => False) w ((w.alloc (.cells old t)).setRow w.heap.size cs) :=
  ⟨(Has.new w t old).setRow cs, ((Only.refl _ w).alloc _).setRow (fun h => absurd h (Nat.lt_irrefl _)) _⟩

set_option maxHeartbeats 4000000 in
theorem known5 (w : World) (hT : Tabs w) : Calls Tryz.prog 4 #[] w fun e w' => e = .returned (.bool true) ∧ Below w.heap.size w w' := by
  have n0 : Has (w.alloc (.cells #[.string ⟨#[97]⟩, .string ⟨#[98]⟩] 9)) w.heap.size 9 #[.string ⟨#[97]⟩, .string ⟨#[98]⟩] := Has.new _ _ _
  have st0 : StrsAt (w.alloc (.cells #[.string ⟨#[97]⟩, .string ⟨#[98]⟩] 9)) w.heap.size (w.heap.size + 1) (.slice (some ⟨w.heap.size, 0, none⟩) 2 2) [[97], [98]] := by
    refine ⟨_, _, rfl, Nat.le_refl _, by simp [maxLen], fun _ => ⟨_, rfl, Nat.le_refl _, Nat.lt_succ_self _, fun j hj => ?_⟩⟩
    have e : (⟨w.heap.size, 0, none⟩ : Addr).add j = ⟨w.heap.size, j, none⟩ := by unfold Addr.add; split <;> simp_all
    rw [e, n0.cell j]
    match j, hj with
    | 0, _ => rfl
    | 1, _ => rfl
  have nz : Has ((w.alloc (.cells #[.string ⟨#[97]⟩, .string ⟨#[98]⟩] 9)).alloc (.cells (zeroCells 0 0) 34)) (w.heap.size + 1) 34 (zeroCells 0 0) := by
    have := Has.new (w.alloc (.cells #[.string ⟨#[97]⟩, .string ⟨#[98]⟩] 9)) 34 (zeroCells 0 0)
    simpa using this
  obtain ⟨W1, hW1⟩ : ∃ W, W = (((w.alloc (.cells #[.string ⟨#[97]⟩, .string ⟨#[98]⟩] 9)).alloc (.cells (zeroCells 0 0) 34)).setRow (w.heap.size + 1) (kCells (.slice (some ⟨w.heap.size, 0, none⟩) 2 2))) := ⟨_, rfl⟩
  have n1 : Has W1 (w.heap.size + 1) 34 (kCells (.slice (some ⟨w.heap.size, 0, none⟩) 2 2)) := by rw [hW1]; exact nz.setRow _
  have k1 : Only (fun _ => False) (w.alloc (.cells #[.string ⟨#[97]⟩, .string ⟨#[98]⟩] 9)) W1 := by rw [hW1]; exact ((Only.refl _ _).alloc _).setRow (fun h => absurd h (by simp)) _
  have kw1 : Only (fun _ => False) w W1 := ((Only.refl (fun _ => False) w).alloc _).trans k1 (fun _ _ h => h)
  have hw1 := n1.lt
  have st1 : StrsAt W1 w.heap.size (w.heap.size + 1) (.slice (some ⟨w.heap.size, 0, none⟩) 2 2) [[97], [98]] := st0.keep (k1.keeps (by simp) (fun _ _ _ h => h))
  have ht1 : Tabs W1 := hT.only kw1 (fun h => h) (fun h => h)
  have c1 := encode5_any w.heap.size (w.heap.size + 1) 110 7 (kCells (.slice (some ⟨w.heap.size, 0, none⟩) 2 2)) kF W1 rfl rfl (fun l hl => by
    obtain rfl : l = [(.num 4, 4), (.num 4, 6), (.texts, 11)] := by rw [k_named] at hl; injection hl with hl; exact hl.symm
    exact (k_at st1).fs k_named (by rw [k_fields]; exact k_ok)) (by decide) (by decide) ht1 (by omega)
  have C1 : Hid (Calls Tryz.prog 9 #[.agg (kCells (.slice (some ⟨w.heap.size, 0, none⟩) 2 2))] (((w.alloc (.cells #[.string ⟨#[97]⟩, .string ⟨#[98]⟩] 9)).alloc (.cells (zeroCells 0 0) 34)).setRow (w.heap.size + 1) (kCells (.slice (some ⟨w.heap.size, 0, none⟩) 2 2))) (Enc5Step W1 110 7 kF)) := by rw [← hW1]; exact c1
  have NZ := Lib.hid nz
  have N1' : Hid (Has (((w.alloc (.cells #[.string ⟨#[97]⟩, .string ⟨#[98]⟩] 9)).alloc (.cells (zeroCells 0 0) 34)).setRow (w.heap.size + 1) (kCells (.slice (some ⟨w.heap.size, 0, none⟩) 2 2))) (w.heap.size + 1) 34 (kCells (.slice (some ⟨w.heap.size, 0, none⟩) 2 2))) := nz.setRow _
  have N1 := Lib.hid n1
  have ST1 := Lib.hid st1
  have HT1 := Lib.hid ht1
  have KW1 := Lib.hid kw1
  clear hT n0 st0 nz n1 k1 kw1 st1 ht1 c1 hW1
  go_enter Tryz.func4, Tryz.ntmps4
  go_wp2_with (first
    | (refine build_struct 34 #[(0, .const (.int .u8 110)), (1, .const (.int .u16 7)), (4, .const (.int .u32 1)), (6, .const (.int .u32 2)), (11, .tmp 11)] (kCells (.slice (some ⟨w.heap.size, 0, none⟩) 2 2)) rfl rfl (Tryz.builtK (some ⟨w.heap.size, 0, none⟩) 2 2) ?_)
    | (refine store_struct Tryz.msgSize (w.heap.size + 1) (kCells (.slice (some ⟨w.heap.size, 0, none⟩) 2 2)) (.tmp 1) (.tmp 12) rfl rfl rfl rfl NZ.out rfl rfl (k_one _ _ _) ?_)
    | (refine load_struct Tryz.underlying34 rfl Tryz.msgSize (w.heap.size + 1) (kCells (.slice (some ⟨w.heap.size, 0, none⟩) 2 2)) (.tmp 1) rfl rfl rfl N1'.out rfl ?_)
    | fail)
  refine C1.out.mono ?_
  intro e w2 st2
  rcases st2 with ⟨_, v2, rfl, ow, b2⟩ | ⟨h, _⟩
  rotate_left
  · exact absurd k_encErr h
  have k2 := Below.onlyNew b2
  have s2 := b2.size
  have c2 := decode5_any v2 (msgB 110 7 kF) _ _ w2 (owns_SlIs ow) (Nat.le_refl _) k_len (HT1.out.only k2 (fun h => h) (fun h => h))
  rw [k_dec] at c2
  have C2 := Lib.hid c2
  have K2 : Hid (Only (fun _ => False) W1 w2) := k2
  obtain ⟨A2, x2, rfl, _⟩ := owns_slice ow
  clear C1 NZ N1' b2 ow k2 c2
  generalize (msgB 110 7 kF).length = n2 at C2
  go_wp2_with fail
  refine C2.out.mono ?_
  rintro e w3 ⟨cs, rfl, hcs, b3⟩
  have k3 := Below.onlyNew b3
  have s3 := b3.size
  have HZ := Lib.hid hcs.size.1
  have HO := Lib.hid hcs.size.2
  obtain ⟨W3, hW3⟩ : ∃ W, W = ((w3.alloc (.cells (zeroCells 0 0) 34)).setRow w3.heap.size cs).alloc (.cells #[.int .u8 110, .int .u8 7, .int .u8 0, .int .u8 1, .int .u8 0] 5) := ⟨_, rfl⟩
  obtain ⟨n3, kn⟩ := new_setRow (w := w3) (t := 34) (cs := cs) (old := zeroCells 0 0)
  have n3' : Has W3 w3.heap.size 34 cs := by rw [hW3]; exact n3.alloc _
  have k3' : Only (fun _ => False) w3 W3 := by rw [hW3]; exact kn.alloc _
  have hz3 : ((w3.alloc (.cells (zeroCells 0 0) 34)).setRow w3.heap.size cs).heap.size = w3.heap.size + 1 := by simp [World.setRow]
  have sl3 : SlIs W3 (w3.heap.size + 1) (w3.heap.size + 2) (.slice (some ⟨w3.heap.size + 1, 0, none⟩) 5 5) [110, 7, 0, 1, 0] := by
    have := lit_SlIs ((w3.alloc (.cells (zeroCells 0 0) 34)).setRow w3.heap.size cs) 5 (0, 0) [110, 7, 0, 1, 0] 5 rfl (by simp [maxLen])
    rw [hz3] at this
    rw [hW3]
    exact this
  have hs3 : W3.heap.size = w3.heap.size + 2 := by rw [hW3]; simp [hz3]
  have kall3 : Only (fun _ => False) W1 W3 := (K2.out.trans k3 (fun _ _ h => h)).trans k3' (fun _ _ h => h)
  have c3 := decode5_any (.slice (some ⟨w3.heap.size + 1, 0, none⟩) 5 5) [110, 7, 0, 1, 0] _ _ W3 sl3 (by omega) (by decide) (HT1.out.only kall3 (fun h => h) (fun h => h))
  rw [k_short] at c3
  have C3 : Hid (Calls Tryz.prog 5 #[.slice (some ⟨w3.heap.size + 1, 0, none⟩) 5 5] (((w3.alloc (.cells (zeroCells 0 0) 34)).setRow w3.heap.size cs).alloc (.cells #[.int .u8 110, .int .u8 7, .int .u8 0, .int .u8 1, .int .u8 0] 5)) (Dec5Step W3 none)) := by rw [← hW3]; exact c3
  have N3 := Lib.hid n3'
  have HI3 := Lib.hid (hcs.keep (k3'.keeps (Nat.le_refl _) (fun _ _ _ h => h)))
  have KA := Lib.hid kall3
  have HZ3 := Lib.hid hz3
  clear C2 b3 k3 k3' kn n3 n3' sl3 kall3 c3 hcs K2 hW3 hz3
  go_wp2_with (first
    | (refine store_struct Tryz.msgSize w3.heap.size cs (.tmp 4) (.tmp 21) rfl rfl rfl rfl (Has.new w3 34 (zeroCells 0 0)) rfl HZ.out HO.out ?_)
    | fail)
  refine C3.out.mono ?_
  rintro e w4 ⟨rfl, b4⟩
  have k4 := Below.onlyNew b4
  obtain ⟨W4, hW4⟩ : ∃ W, W = (w4.alloc (.cells (zeroCells 0 0) 34)).setRow w4.heap.size (zeroCells 0 0) := ⟨_, rfl⟩
  have kn4 : Only (fun _ => False) w4 W4 := by rw [hW4]; exact (new_setRow (w := w4) (t := 34) (cs := zeroCells 0 0) (old := zeroCells 0 0)).2
  have kk4 : Only (fun _ => False) W3 W4 := k4.trans kn4 (fun _ _ h => h)
  have c4 := encode5_any 0 0 106 0 (zeroCells 106 0) [] W4 rfl rfl (fun l hl => by rw [namedOf_none (by decide)] at hl; cases hl) (by decide) (by decide) ((HT1.out.only KA.out (fun h => h) (fun h => h)).only kk4 (fun h => h) (fun h => h)) (Nat.zero_le _)
  have C4 : Hid (Calls Tryz.prog 9 #[.agg (zeroCells 106 0)] ((w4.alloc (.cells (zeroCells 0 0) 34)).setRow w4.heap.size (zeroCells 0 0)) (Enc5Step W4 106 0 [])) := by rw [← hW4]; exact c4
  have KK4 := Lib.hid kk4
  clear C3 b4 k4 kn4 kk4 c4 hW4
  go_wp2_with (first
    | (refine build_struct 34 #[(0, .const (.int .u8 106))] (zeroCells 106 0) rfl rfl (Tryz.builtType 106) ?_)
    | (refine store_struct Tryz.msgSize w4.heap.size (zeroCells 0 0) (.tmp 6) (.tmp 26) rfl rfl rfl rfl (Has.new w4 34 (zeroCells 0 0)) rfl rfl (zero_one 0 0) ?_)
    | fail)
  refine C4.out.mono ?_
  intro e w5 st5
  rcases st5 with ⟨h, _⟩ | ⟨_, rfl, b5⟩
  · rw [k_106] at h
    exact absurd h (by decide)
  have k5 := Below.onlyNew b5
  have C5 := Lib.hid (errorM_any 3 5 w5)
  have KK5 : Hid (Only (fun _ => False) W3 w5) := KK4.out.trans k5 (fun _ _ h => h)
  clear C4 b5 k5 KK4
  rw [k_106]
  go_wp2_with fail
  refine C5.out.mono ?_
  rintro e w6 ⟨rfl, b6⟩
  have k6 := Below.onlyNew b6
  obtain ⟨W6, hW6⟩ : ∃ W, W = (w6.alloc (.cells (zeroCells 0 0) 34)).setRow w6.heap.size (errCells 3 (errW 5)) := ⟨_, rfl⟩
  obtain ⟨n6, kn6⟩ : Has W6 w6.heap.size 34 (errCells 3 (errW 5)) ∧ Only (fun _ => False) w6 W6 := by rw [hW6]; exact new_setRow
  have kk6 : Only (fun _ => False) W3 W6 := (KK5.out.trans k6 (fun _ _ h => h)).trans kn6 (fun _ _ h => h)
  have ka6 : Only (fun _ => False) W1 W6 := KA.out.trans kk6 (fun _ _ h => h)
  have hs36 := kk6.size
  have hs16 := ka6.size
  have x6 : Has W6 w3.heap.size 34 cs := N3.out.only kk6 (fun h => h)
  have m6 : Has W6 (w.heap.size + 1) 34 (kCells (.slice (some ⟨w.heap.size, 0, none⟩) 2 2)) := N1.out.only ka6 (fun h => h)
  obtain ⟨mx, lx, hmx, hx0, hx1, hlx, hfx, hokx⟩ := HI3.out
  obtain rfl : lx = [(.num 4, 4), (.num 4, 6), (.texts, 11)] := by rw [k_named] at hlx; injection hlx with hlx; exact hlx.symm
  have c6 := same5_any _ _ w.heap.size (w.heap.size + 1) 110 7 110 7 cs (kCells (.slice (some ⟨w.heap.size, 0, none⟩) 2 2)) mx kM W6 (hmx.keep (kk6.keeps (by omega) (fun _ _ _ h => h))) ((k_at ST1.out).keep (ka6.keeps (by omega) (fun _ _ _ h => h))) (by omega) (by omega) hx0 hx1 rfl rfl (fun p hp => (hokx p hp).2)
  have hsm : sameM 110 7 110 7 mx kM := ⟨rfl, rfl, fun l hl => by
    obtain rfl : l = [(.num 4, 4), (.num 4, 6), (.texts, 11)] := by rw [k_named] at hl; injection hl with hl; exact hl.symm
    rw [hfx, k_fields]⟩
  have C6 : Hid (Calls Tryz.prog 11 #[.agg cs, .agg (kCells (.slice (some ⟨w.heap.size, 0, none⟩) 2 2))] ((w6.alloc (.cells (zeroCells 0 0) 34)).setRow w6.heap.size (errCells 3 (errW 5))) (fun e w' => e = .returned (.bool true) ∧ Only (fun _ => False) W6 w')) := by
    rw [← hW6]
    refine Lib.hid (c6.mono ?_)
    rintro e w' ⟨⟨b, he, hb⟩, k⟩
    exact ⟨by rw [he, hb.2 hsm], Below.onlyNew k⟩
  have X6 : Hid (Has ((w6.alloc (.cells (zeroCells 0 0) 34)).setRow w6.heap.size (errCells 3 (errW 5))) w3.heap.size 34 cs) := by rw [← hW6]; exact x6
  have M6 : Hid (Has ((w6.alloc (.cells (zeroCells 0 0) 34)).setRow w6.heap.size (errCells 3 (errW 5))) (w.heap.size + 1) 34 (kCells (.slice (some ⟨w.heap.size, 0, none⟩) 2 2))) := by rw [← hW6]; exact m6
  have N6 := Lib.hid n6
  have KW6 : Hid (Only (fun _ => False) w W6) := KW1.out.trans ka6 (fun _ _ h => h)
  have HO6 : Hid ((errCells 3 (errW 5)).all (fun x => x.oneCell') = true) := Lib.hid (by simp [errCells, Value.oneCell'])
  clear C5 b6 k6 n6 kn6 kk6 ka6 x6 m6 c6 hsm hW6 KK5 KA N3 N1 ST1 KW1 HI3 HT1 hmx hx0 hx1 hlx hfx hokx hs36 hs16
  go_wp2_with (first
    | (refine store_struct Tryz.msgSize w6.heap.size (errCells 3 (errW 5)) (.tmp 10) (.tmp 33) rfl rfl rfl rfl (Has.new w6 34 (zeroCells 0 0)) rfl rfl HO6.out ?_)
    | (refine load_structG Tryz.underlying34 rfl Tryz.msgSize w3.heap.size cs (.tmp 4) rfl rfl rfl X6.out HZ.out ?_)
    | (refine load_structG Tryz.underlying34 rfl Tryz.msgSize (w.heap.size + 1) (kCells (.slice (some ⟨w.heap.size, 0, none⟩) 2 2)) (.tmp 1) rfl rfl rfl M6.out rfl ?_)
    | fail)
  refine C6.out.mono ?_
  rintro e w7 ⟨rfl, k7⟩
  have k100 := knownT_any 100
  rw [show decide (isType 100) = true from by decide] at k100
  have k106 := knownT_any 106
  rw [show decide (isType 106) = false from by decide] at k106
  have a110 := fun w => askT_any 110 w (by decide)
  rw [show (decide (isType 110) && decide (110 % 2 = 0)) = true from by decide] at a110
  have a111 := fun w => askT_any 111 w (by decide)
  rw [show (decide (isType 111) && decide (111 % 2 = 0)) = false from by decide] at a111
  have K100 := Lib.hid k100
  have K106 := Lib.hid k106
  have A110 := Lib.hid a110
  have A111 := Lib.hid a111
  have K7 := Lib.hid k7
  clear k100 k106 a110 a111 k7 C6 X6 M6 HO6 HO HZ HZ3
  go_wp2_with fail
  refine (K100.out w7).mono ?_
  rintro e w8 ⟨rfl, b8⟩
  have K8 : Hid (Only (fun _ => False) W6 w8) := K7.out.trans (Below.onlyNew b8) (fun _ _ h => h)
  clear b8 K7 K100
  go_wp2_with fail
  refine (K106.out w8).mono ?_
  rintro e w9 ⟨rfl, b8⟩
  have K9 : Hid (Only (fun _ => False) W6 w9) := K8.out.trans (Below.onlyNew b8) (fun _ _ h => h)
  clear b8 K8 K106
  go_wp2_with fail
  refine (A110.out w9).mono ?_
  rintro e w10 ⟨rfl, b8⟩
  have K10 : Hid (Only (fun _ => False) W6 w10) := K9.out.trans (Below.onlyNew b8) (fun _ _ h => h)
  clear b8 K9 A110
  go_wp2_with fail
  refine (A111.out w10).mono ?_
  rintro e w11 ⟨rfl, b8⟩
  have k11 := K10.out.trans (Below.onlyNew b8) (fun _ _ h => h)
  have n11 := N6.out.only k11 (fun h => h)
  have d0 : w11.cell? ⟨w6.heap.size, 0, none⟩ = some (.int .u8 107) := n11.cell 0
  have d1 : w11.cell? ⟨w6.heap.size, 1, none⟩ = some (.int .u16 3) := n11.cell 1
  have d9 : w11.cell? ⟨w6.heap.size, 9, none⟩ = some (.string ⟨#[112, 101, 114, 109, 105, 115, 115, 105, 111, 110, 32, 100, 101, 110, 105, 101, 100]⟩) := n11.cell 9
  have R : Hid (Below w.heap.size w w11) := (KW6.out.trans k11 (fun _ _ h => h)).below (Nat.le_refl _) (fun _ _ h => h)
  clear b8 k11 n11 K10 A111 N6 KW6
  go_wp2
  go_ret
  exact ⟨rfl, R.out⟩
end Go.Proofs.YtepiifbleoimkaaGreatDoor
