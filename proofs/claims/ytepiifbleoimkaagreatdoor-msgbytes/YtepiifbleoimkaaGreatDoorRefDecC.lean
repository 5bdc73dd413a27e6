/-
  The second reading's fill: the Types without lists.
-/
import Derived.Test.YtepiifbleoimkaaGreatDoorRefDecB
namespace Go.Proofs.YtepiifbleoimkaaGreatDoor
open Go.RowKit
set_option maxRecDepth 100000

set_option maxHeartbeats 1000000 in
theorem rfill_100 (H g : Nat) (bs r : List UInt8) (tag : Nat) (w : World) (h : RV w H g bs r 0) (hb : bs.length ≤ 100000) (hl : r.length ≤ bs.length) (htag : tag < 65536) :
    Calls Tryz.prog 20 #[.pointer (some ⟨g, 0, none⟩), .agg (rzCells 100 tag)] w (fun e w' => ∃ cs', e = .returned (.agg cs') ∧ FillAns w H g 100 tag bs (tkL [.num 4, .text] r) cs' w') := by
  obtain ⟨W, hW⟩ : ∃ W, W = (w.alloc (.cells (rzCells 100 tag) 43)).alloc (.cells #[.int .u8 0, .int .u16 0, .int .u32 0, .string ⟨#[]⟩, .int .u32 0, .int .u32 0, .int .u32 0, .string ⟨#[]⟩, .string ⟨#[]⟩, .string ⟨#[]⟩, .int .u16 0, .slice none 0 0, .slice none 0 0, .int .u8 0, .int .u32 0, .int .u64 0, .int .u32 0, .int .u8 0, .int .u32 0, .string ⟨#[]⟩, .int .u64 0, .int .u32 0, .string ⟨#[]⟩, .int .u16 0, .int .u32 0, .int .u8 0, .int .u32 0, .int .u64 0, .int .u32 0, .int .u32 0, .int .u32 0, .int .u64 0, .string ⟨#[]⟩, .string ⟨#[]⟩, .string ⟨#[]⟩, .string ⟨#[]⟩] 43) := ⟨_, rfl⟩
  have k0 : Only (fun _ => False) w W := by rw [hW]; exact ((Only.refl _ w).alloc _).alloc _
  have n0 : Has W w.heap.size 43 (rzCells 100 tag) := by rw [hW]; exact (Has.new w _ _).alloc _
  have r0 : Has W (w.heap.size + 1) 43 RZ := by
    rw [hW]
    have := Has.new (w.alloc (.cells (rzCells 100 tag) 43)) 43 #[.int .u8 0, .int .u16 0, .int .u32 0, .string ⟨#[]⟩, .int .u32 0, .int .u32 0, .int .u32 0, .string ⟨#[]⟩, .string ⟨#[]⟩, .string ⟨#[]⟩, .int .u16 0, .slice none 0 0, .slice none 0 0, .int .u8 0, .int .u32 0, .int .u64 0, .int .u32 0, .int .u8 0, .int .u32 0, .string ⟨#[]⟩, .int .u64 0, .int .u32 0, .string ⟨#[]⟩, .int .u16 0, .int .u32 0, .int .u8 0, .int .u32 0, .int .u64 0, .int .u32 0, .int .u32 0, .int .u32 0, .int .u64 0, .string ⟨#[]⟩, .string ⟨#[]⟩, .string ⟨#[]⟩, .string ⟨#[]⟩]
    show Has _ _ _ #[.int .u8 0, .int .u16 0, .int .u32 0, .string ⟨#[]⟩, .int .u32 0, .int .u32 0, .int .u32 0, .string ⟨#[]⟩, .string ⟨#[]⟩, .string ⟨#[]⟩, .int .u16 0, .slice none 0 0, .slice none 0 0, .int .u8 0, .int .u32 0, .int .u64 0, .int .u32 0, .int .u8 0, .int .u32 0, .string ⟨#[]⟩, .int .u64 0, .int .u32 0, .string ⟨#[]⟩, .int .u16 0, .int .u32 0, .int .u8 0, .int .u32 0, .int .u64 0, .int .u32 0, .int .u32 0, .int .u32 0, .int .u64 0, .string ⟨#[]⟩, .string ⟨#[]⟩, .string ⟨#[]⟩, .string ⟨#[]⟩]
    simpa using this
  have X0 := Lib.hid (FC.start (ks := [.num 4, .text]) h hl (by decide) htag k0 n0)
  have d0 : W.cell? ⟨w.heap.size, 0, none⟩ = some (.int .u8 100) := n0.cell 0
  have HF := Lib.hid (fun (wr : World) (rr : List UInt8) (er : Int) (cs : Array Value) (m : Nat → F) (done : List F) (c : FC W H g w.heap.size bs (tkL [.num 4, .text] r) done [] rr er cs m wr) hd h0 h1 => c.fin (t := 100) (tag := tag) k0 r0 hd h0 h1)
  have HW := Lib.hid hW.symm
  clear h n0 r0 k0 hW
  go_enter Tryz.func20, Tryz.ntmps20
  go_upto_region 1 with fail
  refine (show Code.wp _ _ _ _ ((w.alloc (.cells (rzCells 100 tag) 43)).alloc (.cells #[.int .u8 0, .int .u16 0, .int .u32 0, .string ⟨#[]⟩, .int .u32 0, .int .u32 0, .int .u32 0, .string ⟨#[]⟩, .string ⟨#[]⟩, .string ⟨#[]⟩, .int .u16 0, .slice none 0 0, .slice none 0 0, .int .u8 0, .int .u32 0, .int .u64 0, .int .u32 0, .int .u8 0, .int .u32 0, .string ⟨#[]⟩, .int .u64 0, .int .u32 0, .string ⟨#[]⟩, .int .u16 0, .int .u32 0, .int .u8 0, .int .u32 0, .int .u64 0, .int .u32 0, .int .u32 0, .int .u32 0, .int .u64 0, .string ⟨#[]⟩, .string ⟨#[]⟩, .string ⟨#[]⟩, .string ⟨#[]⟩] 43)) from ?_)
  rw [HW.out]
  clear HW
  go_wp2_with fail
  refine (fc_num 4 2 .u32 rfl (by decide) X0.out (by decide)).mono ?_
  rintro e w1 ⟨x1, r1, e1, rfl, hx1, ⟨⟨y1, c1⟩, f1⟩, Y⟩
  have u1' : IntKind.u32.wrap (x1 : Int) = (x1 : Int) := IntWalk.u32_in _ (by omega)
  have X1 := Lib.hid Y
  clear Y X0
  go_wp2_with fail
  refine (fc_text 3 X1.out (by decide) hb).mono ?_
  rintro e w2 ⟨x2, r2, e2, rfl, ⟨⟨y2, c2⟩, f2⟩, Y⟩
  have X2 := Lib.hid Y
  clear Y X1
  obtain ⟨n9, z9, o9, r9, ans⟩ := HF.out _ _ _ _ _ _ X2.out rfl rfl rfl
  have N9 := Lib.hid n9
  have Z9 := Lib.hid z9
  have O9 := Lib.hid o9
  have R9 := Lib.hid r9
  have ANS := Lib.hid ans
  clear n9 z9 o9 r9 ans X2 HF
  go_wp2_with (first
    | (refine load_struct Tryz.underlying43 rfl Tryz.refMsgSize w.heap.size _ (.tmp 3) rfl rfl rfl N9.out Z9.out ?_)
    | (refine store_struct Tryz.refMsgSize (w.heap.size + 1) _ (.tmp 4) (.tmp 201) rfl rfl rfl rfl R9.out rfl Z9.out O9.out ?_)
    | fail)
  refine bodyPost_ret (results_cell_row rfl _ _ (w.heap.size + 1) 43 _ (0, 0) _ rfl (R9.out.setRow _) Tryz.underlying43 rfl (by rw [Z9.out]; exact Tryz.refMsgSize)) rfl ?_
  exact ⟨_, rfl, ANS.out⟩

set_option maxHeartbeats 1000000 in
theorem rfill_101 (H g : Nat) (bs r : List UInt8) (tag : Nat) (w : World) (h : RV w H g bs r 0) (hb : bs.length ≤ 100000) (hl : r.length ≤ bs.length) (htag : tag < 65536) :
    Calls Tryz.prog 20 #[.pointer (some ⟨g, 0, none⟩), .agg (rzCells 101 tag)] w (fun e w' => ∃ cs', e = .returned (.agg cs') ∧ FillAns w H g 101 tag bs (tkL [.num 4, .text] r) cs' w') := by
  obtain ⟨W, hW⟩ : ∃ W, W = (w.alloc (.cells (rzCells 101 tag) 43)).alloc (.cells #[.int .u8 0, .int .u16 0, .int .u32 0, .string ⟨#[]⟩, .int .u32 0, .int .u32 0, .int .u32 0, .string ⟨#[]⟩, .string ⟨#[]⟩, .string ⟨#[]⟩, .int .u16 0, .slice none 0 0, .slice none 0 0, .int .u8 0, .int .u32 0, .int .u64 0, .int .u32 0, .int .u8 0, .int .u32 0, .string ⟨#[]⟩, .int .u64 0, .int .u32 0, .string ⟨#[]⟩, .int .u16 0, .int .u32 0, .int .u8 0, .int .u32 0, .int .u64 0, .int .u32 0, .int .u32 0, .int .u32 0, .int .u64 0, .string ⟨#[]⟩, .string ⟨#[]⟩, .string ⟨#[]⟩, .string ⟨#[]⟩] 43) := ⟨_, rfl⟩
  have k0 : Only (fun _ => False) w W := by rw [hW]; exact ((Only.refl _ w).alloc _).alloc _
  have n0 : Has W w.heap.size 43 (rzCells 101 tag) := by rw [hW]; exact (Has.new w _ _).alloc _
  have r0 : Has W (w.heap.size + 1) 43 RZ := by
    rw [hW]
    have := Has.new (w.alloc (.cells (rzCells 101 tag) 43)) 43 #[.int .u8 0, .int .u16 0, .int .u32 0, .string ⟨#[]⟩, .int .u32 0, .int .u32 0, .int .u32 0, .string ⟨#[]⟩, .string ⟨#[]⟩, .string ⟨#[]⟩, .int .u16 0, .slice none 0 0, .slice none 0 0, .int .u8 0, .int .u32 0, .int .u64 0, .int .u32 0, .int .u8 0, .int .u32 0, .string ⟨#[]⟩, .int .u64 0, .int .u32 0, .string ⟨#[]⟩, .int .u16 0, .int .u32 0, .int .u8 0, .int .u32 0, .int .u64 0, .int .u32 0, .int .u32 0, .int .u32 0, .int .u64 0, .string ⟨#[]⟩, .string ⟨#[]⟩, .string ⟨#[]⟩, .string ⟨#[]⟩]
    show Has _ _ _ #[.int .u8 0, .int .u16 0, .int .u32 0, .string ⟨#[]⟩, .int .u32 0, .int .u32 0, .int .u32 0, .string ⟨#[]⟩, .string ⟨#[]⟩, .string ⟨#[]⟩, .int .u16 0, .slice none 0 0, .slice none 0 0, .int .u8 0, .int .u32 0, .int .u64 0, .int .u32 0, .int .u8 0, .int .u32 0, .string ⟨#[]⟩, .int .u64 0, .int .u32 0, .string ⟨#[]⟩, .int .u16 0, .int .u32 0, .int .u8 0, .int .u32 0, .int .u64 0, .int .u32 0, .int .u32 0, .int .u32 0, .int .u64 0, .string ⟨#[]⟩, .string ⟨#[]⟩, .string ⟨#[]⟩, .string ⟨#[]⟩]
    simpa using this
  have X0 := Lib.hid (FC.start (ks := [.num 4, .text]) h hl (by decide) htag k0 n0)
  have d0 : W.cell? ⟨w.heap.size, 0, none⟩ = some (.int .u8 101) := n0.cell 0
  have HF := Lib.hid (fun (wr : World) (rr : List UInt8) (er : Int) (cs : Array Value) (m : Nat → F) (done : List F) (c : FC W H g w.heap.size bs (tkL [.num 4, .text] r) done [] rr er cs m wr) hd h0 h1 => c.fin (t := 101) (tag := tag) k0 r0 hd h0 h1)
  have HW := Lib.hid hW.symm
  clear h n0 r0 k0 hW
  go_enter Tryz.func20, Tryz.ntmps20
  go_upto_region 1 with fail
  refine (show Code.wp _ _ _ _ ((w.alloc (.cells (rzCells 101 tag) 43)).alloc (.cells #[.int .u8 0, .int .u16 0, .int .u32 0, .string ⟨#[]⟩, .int .u32 0, .int .u32 0, .int .u32 0, .string ⟨#[]⟩, .string ⟨#[]⟩, .string ⟨#[]⟩, .int .u16 0, .slice none 0 0, .slice none 0 0, .int .u8 0, .int .u32 0, .int .u64 0, .int .u32 0, .int .u8 0, .int .u32 0, .string ⟨#[]⟩, .int .u64 0, .int .u32 0, .string ⟨#[]⟩, .int .u16 0, .int .u32 0, .int .u8 0, .int .u32 0, .int .u64 0, .int .u32 0, .int .u32 0, .int .u32 0, .int .u64 0, .string ⟨#[]⟩, .string ⟨#[]⟩, .string ⟨#[]⟩, .string ⟨#[]⟩] 43)) from ?_)
  rw [HW.out]
  clear HW
  go_wp2_with fail
  refine (fc_num 4 2 .u32 rfl (by decide) X0.out (by decide)).mono ?_
  rintro e w1 ⟨x1, r1, e1, rfl, hx1, ⟨⟨y1, c1⟩, f1⟩, Y⟩
  have u1' : IntKind.u32.wrap (x1 : Int) = (x1 : Int) := IntWalk.u32_in _ (by omega)
  have X1 := Lib.hid Y
  clear Y X0
  go_wp2_with fail
  refine (fc_text 3 X1.out (by decide) hb).mono ?_
  rintro e w2 ⟨x2, r2, e2, rfl, ⟨⟨y2, c2⟩, f2⟩, Y⟩
  have X2 := Lib.hid Y
  clear Y X1
  obtain ⟨n9, z9, o9, r9, ans⟩ := HF.out _ _ _ _ _ _ X2.out rfl rfl rfl
  have N9 := Lib.hid n9
  have Z9 := Lib.hid z9
  have O9 := Lib.hid o9
  have R9 := Lib.hid r9
  have ANS := Lib.hid ans
  clear n9 z9 o9 r9 ans X2 HF
  go_wp2_with (first
    | (refine load_struct Tryz.underlying43 rfl Tryz.refMsgSize w.heap.size _ (.tmp 3) rfl rfl rfl N9.out Z9.out ?_)
    | (refine store_struct Tryz.refMsgSize (w.heap.size + 1) _ (.tmp 4) (.tmp 201) rfl rfl rfl rfl R9.out rfl Z9.out O9.out ?_)
    | fail)
  refine bodyPost_ret (results_cell_row rfl _ _ (w.heap.size + 1) 43 _ (0, 0) _ rfl (R9.out.setRow _) Tryz.underlying43 rfl (by rw [Z9.out]; exact Tryz.refMsgSize)) rfl ?_
  exact ⟨_, rfl, ANS.out⟩

set_option maxHeartbeats 1000000 in
theorem rfill_102 (H g : Nat) (bs r : List UInt8) (tag : Nat) (w : World) (h : RV w H g bs r 0) (hb : bs.length ≤ 100000) (hl : r.length ≤ bs.length) (htag : tag < 65536) :
    Calls Tryz.prog 20 #[.pointer (some ⟨g, 0, none⟩), .agg (rzCells 102 tag)] w (fun e w' => ∃ cs', e = .returned (.agg cs') ∧ FillAns w H g 102 tag bs (tkL [.num 4, .text, .text] r) cs' w') := by
  obtain ⟨W, hW⟩ : ∃ W, W = (w.alloc (.cells (rzCells 102 tag) 43)).alloc (.cells #[.int .u8 0, .int .u16 0, .int .u32 0, .string ⟨#[]⟩, .int .u32 0, .int .u32 0, .int .u32 0, .string ⟨#[]⟩, .string ⟨#[]⟩, .string ⟨#[]⟩, .int .u16 0, .slice none 0 0, .slice none 0 0, .int .u8 0, .int .u32 0, .int .u64 0, .int .u32 0, .int .u8 0, .int .u32 0, .string ⟨#[]⟩, .int .u64 0, .int .u32 0, .string ⟨#[]⟩, .int .u16 0, .int .u32 0, .int .u8 0, .int .u32 0, .int .u64 0, .int .u32 0, .int .u32 0, .int .u32 0, .int .u64 0, .string ⟨#[]⟩, .string ⟨#[]⟩, .string ⟨#[]⟩, .string ⟨#[]⟩] 43) := ⟨_, rfl⟩
  have k0 : Only (fun _ => False) w W := by rw [hW]; exact ((Only.refl _ w).alloc _).alloc _
  have n0 : Has W w.heap.size 43 (rzCells 102 tag) := by rw [hW]; exact (Has.new w _ _).alloc _
  have r0 : Has W (w.heap.size + 1) 43 RZ := by
    rw [hW]
    have := Has.new (w.alloc (.cells (rzCells 102 tag) 43)) 43 #[.int .u8 0, .int .u16 0, .int .u32 0, .string ⟨#[]⟩, .int .u32 0, .int .u32 0, .int .u32 0, .string ⟨#[]⟩, .string ⟨#[]⟩, .string ⟨#[]⟩, .int .u16 0, .slice none 0 0, .slice none 0 0, .int .u8 0, .int .u32 0, .int .u64 0, .int .u32 0, .int .u8 0, .int .u32 0, .string ⟨#[]⟩, .int .u64 0, .int .u32 0, .string ⟨#[]⟩, .int .u16 0, .int .u32 0, .int .u8 0, .int .u32 0, .int .u64 0, .int .u32 0, .int .u32 0, .int .u32 0, .int .u64 0, .string ⟨#[]⟩, .string ⟨#[]⟩, .string ⟨#[]⟩, .string ⟨#[]⟩]
    show Has _ _ _ #[.int .u8 0, .int .u16 0, .int .u32 0, .string ⟨#[]⟩, .int .u32 0, .int .u32 0, .int .u32 0, .string ⟨#[]⟩, .string ⟨#[]⟩, .string ⟨#[]⟩, .int .u16 0, .slice none 0 0, .slice none 0 0, .int .u8 0, .int .u32 0, .int .u64 0, .int .u32 0, .int .u8 0, .int .u32 0, .string ⟨#[]⟩, .int .u64 0, .int .u32 0, .string ⟨#[]⟩, .int .u16 0, .int .u32 0, .int .u8 0, .int .u32 0, .int .u64 0, .int .u32 0, .int .u32 0, .int .u32 0, .int .u64 0, .string ⟨#[]⟩, .string ⟨#[]⟩, .string ⟨#[]⟩, .string ⟨#[]⟩]
    simpa using this
  have X0 := Lib.hid (FC.start (ks := [.num 4, .text, .text]) h hl (by decide) htag k0 n0)
  have d0 : W.cell? ⟨w.heap.size, 0, none⟩ = some (.int .u8 102) := n0.cell 0
  have HF := Lib.hid (fun (wr : World) (rr : List UInt8) (er : Int) (cs : Array Value) (m : Nat → F) (done : List F) (c : FC W H g w.heap.size bs (tkL [.num 4, .text, .text] r) done [] rr er cs m wr) hd h0 h1 => c.fin (t := 102) (tag := tag) k0 r0 hd h0 h1)
  have HW := Lib.hid hW.symm
  clear h n0 r0 k0 hW
  go_enter Tryz.func20, Tryz.ntmps20
  go_upto_region 1 with fail
  refine (show Code.wp _ _ _ _ ((w.alloc (.cells (rzCells 102 tag) 43)).alloc (.cells #[.int .u8 0, .int .u16 0, .int .u32 0, .string ⟨#[]⟩, .int .u32 0, .int .u32 0, .int .u32 0, .string ⟨#[]⟩, .string ⟨#[]⟩, .string ⟨#[]⟩, .int .u16 0, .slice none 0 0, .slice none 0 0, .int .u8 0, .int .u32 0, .int .u64 0, .int .u32 0, .int .u8 0, .int .u32 0, .string ⟨#[]⟩, .int .u64 0, .int .u32 0, .string ⟨#[]⟩, .int .u16 0, .int .u32 0, .int .u8 0, .int .u32 0, .int .u64 0, .int .u32 0, .int .u32 0, .int .u32 0, .int .u64 0, .string ⟨#[]⟩, .string ⟨#[]⟩, .string ⟨#[]⟩, .string ⟨#[]⟩] 43)) from ?_)
  rw [HW.out]
  clear HW
  go_wp2_with fail
  refine (fc_num 4 5 .u32 rfl (by decide) X0.out (by decide)).mono ?_
  rintro e w1 ⟨x1, r1, e1, rfl, hx1, ⟨⟨y1, c1⟩, f1⟩, Y⟩
  have u1' : IntKind.u32.wrap (x1 : Int) = (x1 : Int) := IntWalk.u32_in _ (by omega)
  have X1 := Lib.hid Y
  clear Y X0
  go_wp2_with fail
  refine (fc_text 7 X1.out (by decide) hb).mono ?_
  rintro e w2 ⟨x2, r2, e2, rfl, ⟨⟨y2, c2⟩, f2⟩, Y⟩
  have X2 := Lib.hid Y
  clear Y X1
  go_wp2_with fail
  refine (fc_text 8 X2.out (by decide) hb).mono ?_
  rintro e w3 ⟨x3, r3, e3, rfl, ⟨⟨y3, c3⟩, f3⟩, Y⟩
  have X3 := Lib.hid Y
  clear Y X2
  obtain ⟨n9, z9, o9, r9, ans⟩ := HF.out _ _ _ _ _ _ X3.out rfl rfl rfl
  have N9 := Lib.hid n9
  have Z9 := Lib.hid z9
  have O9 := Lib.hid o9
  have R9 := Lib.hid r9
  have ANS := Lib.hid ans
  clear n9 z9 o9 r9 ans X3 HF
  go_wp2_with (first
    | (refine load_struct Tryz.underlying43 rfl Tryz.refMsgSize w.heap.size _ (.tmp 3) rfl rfl rfl N9.out Z9.out ?_)
    | (refine store_struct Tryz.refMsgSize (w.heap.size + 1) _ (.tmp 4) (.tmp 201) rfl rfl rfl rfl R9.out rfl Z9.out O9.out ?_)
    | fail)
  refine bodyPost_ret (results_cell_row rfl _ _ (w.heap.size + 1) 43 _ (0, 0) _ rfl (R9.out.setRow _) Tryz.underlying43 rfl (by rw [Z9.out]; exact Tryz.refMsgSize)) rfl ?_
  exact ⟨_, rfl, ANS.out⟩

set_option maxHeartbeats 1000000 in
theorem rfill_103 (H g : Nat) (bs r : List UInt8) (tag : Nat) (w : World) (h : RV w H g bs r 0) (_hb : bs.length ≤ 100000) (hl : r.length ≤ bs.length) (htag : tag < 65536) :
    Calls Tryz.prog 20 #[.pointer (some ⟨g, 0, none⟩), .agg (rzCells 103 tag)] w (fun e w' => ∃ cs', e = .returned (.agg cs') ∧ FillAns w H g 103 tag bs (tkL [.qid] r) cs' w') := by
  obtain ⟨W, hW⟩ : ∃ W, W = (w.alloc (.cells (rzCells 103 tag) 43)).alloc (.cells #[.int .u8 0, .int .u16 0, .int .u32 0, .string ⟨#[]⟩, .int .u32 0, .int .u32 0, .int .u32 0, .string ⟨#[]⟩, .string ⟨#[]⟩, .string ⟨#[]⟩, .int .u16 0, .slice none 0 0, .slice none 0 0, .int .u8 0, .int .u32 0, .int .u64 0, .int .u32 0, .int .u8 0, .int .u32 0, .string ⟨#[]⟩, .int .u64 0, .int .u32 0, .string ⟨#[]⟩, .int .u16 0, .int .u32 0, .int .u8 0, .int .u32 0, .int .u64 0, .int .u32 0, .int .u32 0, .int .u32 0, .int .u64 0, .string ⟨#[]⟩, .string ⟨#[]⟩, .string ⟨#[]⟩, .string ⟨#[]⟩] 43) := ⟨_, rfl⟩
  have k0 : Only (fun _ => False) w W := by rw [hW]; exact ((Only.refl _ w).alloc _).alloc _
  have n0 : Has W w.heap.size 43 (rzCells 103 tag) := by rw [hW]; exact (Has.new w _ _).alloc _
  have r0 : Has W (w.heap.size + 1) 43 RZ := by
    rw [hW]
    have := Has.new (w.alloc (.cells (rzCells 103 tag) 43)) 43 #[.int .u8 0, .int .u16 0, .int .u32 0, .string ⟨#[]⟩, .int .u32 0, .int .u32 0, .int .u32 0, .string ⟨#[]⟩, .string ⟨#[]⟩, .string ⟨#[]⟩, .int .u16 0, .slice none 0 0, .slice none 0 0, .int .u8 0, .int .u32 0, .int .u64 0, .int .u32 0, .int .u8 0, .int .u32 0, .string ⟨#[]⟩, .int .u64 0, .int .u32 0, .string ⟨#[]⟩, .int .u16 0, .int .u32 0, .int .u8 0, .int .u32 0, .int .u64 0, .int .u32 0, .int .u32 0, .int .u32 0, .int .u64 0, .string ⟨#[]⟩, .string ⟨#[]⟩, .string ⟨#[]⟩, .string ⟨#[]⟩]
    show Has _ _ _ #[.int .u8 0, .int .u16 0, .int .u32 0, .string ⟨#[]⟩, .int .u32 0, .int .u32 0, .int .u32 0, .string ⟨#[]⟩, .string ⟨#[]⟩, .string ⟨#[]⟩, .int .u16 0, .slice none 0 0, .slice none 0 0, .int .u8 0, .int .u32 0, .int .u64 0, .int .u32 0, .int .u8 0, .int .u32 0, .string ⟨#[]⟩, .int .u64 0, .int .u32 0, .string ⟨#[]⟩, .int .u16 0, .int .u32 0, .int .u8 0, .int .u32 0, .int .u64 0, .int .u32 0, .int .u32 0, .int .u32 0, .int .u64 0, .string ⟨#[]⟩, .string ⟨#[]⟩, .string ⟨#[]⟩, .string ⟨#[]⟩]
    simpa using this
  have X0 := Lib.hid (FC.start (ks := [.qid]) h hl (by decide) htag k0 n0)
  have d0 : W.cell? ⟨w.heap.size, 0, none⟩ = some (.int .u8 103) := n0.cell 0
  have HF := Lib.hid (fun (wr : World) (rr : List UInt8) (er : Int) (cs : Array Value) (m : Nat → F) (done : List F) (c : FC W H g w.heap.size bs (tkL [.qid] r) done [] rr er cs m wr) hd h0 h1 => c.fin (t := 103) (tag := tag) k0 r0 hd h0 h1)
  have HW := Lib.hid hW.symm
  clear h n0 r0 k0 hW
  go_enter Tryz.func20, Tryz.ntmps20
  go_upto_region 1 with fail
  refine (show Code.wp _ _ _ _ ((w.alloc (.cells (rzCells 103 tag) 43)).alloc (.cells #[.int .u8 0, .int .u16 0, .int .u32 0, .string ⟨#[]⟩, .int .u32 0, .int .u32 0, .int .u32 0, .string ⟨#[]⟩, .string ⟨#[]⟩, .string ⟨#[]⟩, .int .u16 0, .slice none 0 0, .slice none 0 0, .int .u8 0, .int .u32 0, .int .u64 0, .int .u32 0, .int .u8 0, .int .u32 0, .string ⟨#[]⟩, .int .u64 0, .int .u32 0, .string ⟨#[]⟩, .int .u16 0, .int .u32 0, .int .u8 0, .int .u32 0, .int .u64 0, .int .u32 0, .int .u32 0, .int .u32 0, .int .u64 0, .string ⟨#[]⟩, .string ⟨#[]⟩, .string ⟨#[]⟩, .string ⟨#[]⟩] 43)) from ?_)
  rw [HW.out]
  clear HW
  go_wp2_with fail
  refine (fc_qid 13 X0.out (by decide)).mono ?_
  rintro e w1 ⟨x1, r1, e1, rfl, hh, Y⟩
  have X1 := Lib.hid Y
  have hz : (rzCells 0 0).size = 36 := rfl
  have zc := X0.out.mg.size
  have f10 := hh.frozen 13
  obtain ⟨y10, g10⟩ : ∃ y, w1.cell? ⟨w.heap.size, 13, none⟩ = some y := ⟨_, (hh.cell 13).trans (Array.getElem?_eq_getElem (by omega))⟩
  have f11 := hh.frozen 14
  obtain ⟨y11, g11⟩ : ∃ y, w1.cell? ⟨w.heap.size, 14, none⟩ = some y := ⟨_, (hh.cell 14).trans (Array.getElem?_eq_getElem (by omega))⟩
  have f12 := hh.frozen 15
  obtain ⟨y12, g12⟩ : ∃ y, w1.cell? ⟨w.heap.size, 15, none⟩ = some y := ⟨_, (hh.cell 15).trans (Array.getElem?_eq_getElem (by omega))⟩
  clear Y X0 hh hz zc
  obtain ⟨n9, z9, o9, r9, ans⟩ := HF.out _ _ _ _ _ _ X1.out rfl rfl rfl
  have N9 := Lib.hid n9
  have Z9 := Lib.hid z9
  have O9 := Lib.hid o9
  have R9 := Lib.hid r9
  have ANS := Lib.hid ans
  clear n9 z9 o9 r9 ans X1 HF
  go_wp2_with (first
    | (refine load_struct Tryz.underlying43 rfl Tryz.refMsgSize w.heap.size _ (.tmp 3) rfl rfl rfl N9.out Z9.out ?_)
    | (refine store_struct Tryz.refMsgSize (w.heap.size + 1) _ (.tmp 4) (.tmp 201) rfl rfl rfl rfl R9.out rfl Z9.out O9.out ?_)
    | fail)
  refine bodyPost_ret (results_cell_row rfl _ _ (w.heap.size + 1) 43 _ (0, 0) _ rfl (R9.out.setRow _) Tryz.underlying43 rfl (by rw [Z9.out]; exact Tryz.refMsgSize)) rfl ?_
  exact ⟨_, rfl, ANS.out⟩

set_option maxHeartbeats 1000000 in
theorem rfill_104 (H g : Nat) (bs r : List UInt8) (tag : Nat) (w : World) (h : RV w H g bs r 0) (hb : bs.length ≤ 100000) (hl : r.length ≤ bs.length) (htag : tag < 65536) :
    Calls Tryz.prog 20 #[.pointer (some ⟨g, 0, none⟩), .agg (rzCells 104 tag)] w (fun e w' => ∃ cs', e = .returned (.agg cs') ∧ FillAns w H g 104 tag bs (tkL [.num 4, .num 4, .text, .text] r) cs' w') := by
  obtain ⟨W, hW⟩ : ∃ W, W = (w.alloc (.cells (rzCells 104 tag) 43)).alloc (.cells #[.int .u8 0, .int .u16 0, .int .u32 0, .string ⟨#[]⟩, .int .u32 0, .int .u32 0, .int .u32 0, .string ⟨#[]⟩, .string ⟨#[]⟩, .string ⟨#[]⟩, .int .u16 0, .slice none 0 0, .slice none 0 0, .int .u8 0, .int .u32 0, .int .u64 0, .int .u32 0, .int .u8 0, .int .u32 0, .string ⟨#[]⟩, .int .u64 0, .int .u32 0, .string ⟨#[]⟩, .int .u16 0, .int .u32 0, .int .u8 0, .int .u32 0, .int .u64 0, .int .u32 0, .int .u32 0, .int .u32 0, .int .u64 0, .string ⟨#[]⟩, .string ⟨#[]⟩, .string ⟨#[]⟩, .string ⟨#[]⟩] 43) := ⟨_, rfl⟩
  have k0 : Only (fun _ => False) w W := by rw [hW]; exact ((Only.refl _ w).alloc _).alloc _
  have n0 : Has W w.heap.size 43 (rzCells 104 tag) := by rw [hW]; exact (Has.new w _ _).alloc _
  have r0 : Has W (w.heap.size + 1) 43 RZ := by
    rw [hW]
    have := Has.new (w.alloc (.cells (rzCells 104 tag) 43)) 43 #[.int .u8 0, .int .u16 0, .int .u32 0, .string ⟨#[]⟩, .int .u32 0, .int .u32 0, .int .u32 0, .string ⟨#[]⟩, .string ⟨#[]⟩, .string ⟨#[]⟩, .int .u16 0, .slice none 0 0, .slice none 0 0, .int .u8 0, .int .u32 0, .int .u64 0, .int .u32 0, .int .u8 0, .int .u32 0, .string ⟨#[]⟩, .int .u64 0, .int .u32 0, .string ⟨#[]⟩, .int .u16 0, .int .u32 0, .int .u8 0, .int .u32 0, .int .u64 0, .int .u32 0, .int .u32 0, .int .u32 0, .int .u64 0, .string ⟨#[]⟩, .string ⟨#[]⟩, .string ⟨#[]⟩, .string ⟨#[]⟩]
    show Has _ _ _ #[.int .u8 0, .int .u16 0, .int .u32 0, .string ⟨#[]⟩, .int .u32 0, .int .u32 0, .int .u32 0, .string ⟨#[]⟩, .string ⟨#[]⟩, .string ⟨#[]⟩, .int .u16 0, .slice none 0 0, .slice none 0 0, .int .u8 0, .int .u32 0, .int .u64 0, .int .u32 0, .int .u8 0, .int .u32 0, .string ⟨#[]⟩, .int .u64 0, .int .u32 0, .string ⟨#[]⟩, .int .u16 0, .int .u32 0, .int .u8 0, .int .u32 0, .int .u64 0, .int .u32 0, .int .u32 0, .int .u32 0, .int .u64 0, .string ⟨#[]⟩, .string ⟨#[]⟩, .string ⟨#[]⟩, .string ⟨#[]⟩]
    simpa using this
  have X0 := Lib.hid (FC.start (ks := [.num 4, .num 4, .text, .text]) h hl (by decide) htag k0 n0)
  have d0 : W.cell? ⟨w.heap.size, 0, none⟩ = some (.int .u8 104) := n0.cell 0
  have HF := Lib.hid (fun (wr : World) (rr : List UInt8) (er : Int) (cs : Array Value) (m : Nat → F) (done : List F) (c : FC W H g w.heap.size bs (tkL [.num 4, .num 4, .text, .text] r) done [] rr er cs m wr) hd h0 h1 => c.fin (t := 104) (tag := tag) k0 r0 hd h0 h1)
  have HW := Lib.hid hW.symm
  clear h n0 r0 k0 hW
  go_enter Tryz.func20, Tryz.ntmps20
  go_upto_region 1 with fail
  refine (show Code.wp _ _ _ _ ((w.alloc (.cells (rzCells 104 tag) 43)).alloc (.cells #[.int .u8 0, .int .u16 0, .int .u32 0, .string ⟨#[]⟩, .int .u32 0, .int .u32 0, .int .u32 0, .string ⟨#[]⟩, .string ⟨#[]⟩, .string ⟨#[]⟩, .int .u16 0, .slice none 0 0, .slice none 0 0, .int .u8 0, .int .u32 0, .int .u64 0, .int .u32 0, .int .u8 0, .int .u32 0, .string ⟨#[]⟩, .int .u64 0, .int .u32 0, .string ⟨#[]⟩, .int .u16 0, .int .u32 0, .int .u8 0, .int .u32 0, .int .u64 0, .int .u32 0, .int .u32 0, .int .u32 0, .int .u64 0, .string ⟨#[]⟩, .string ⟨#[]⟩, .string ⟨#[]⟩, .string ⟨#[]⟩] 43)) from ?_)
  rw [HW.out]
  clear HW
  go_wp2_with fail
  refine (fc_num 4 4 .u32 rfl (by decide) X0.out (by decide)).mono ?_
  rintro e w1 ⟨x1, r1, e1, rfl, hx1, ⟨⟨y1, c1⟩, f1⟩, Y⟩
  have u1' : IntKind.u32.wrap (x1 : Int) = (x1 : Int) := IntWalk.u32_in _ (by omega)
  have X1 := Lib.hid Y
  clear Y X0
  go_wp2_with fail
  refine (fc_num 4 5 .u32 rfl (by decide) X1.out (by decide)).mono ?_
  rintro e w2 ⟨x2, r2, e2, rfl, hx2, ⟨⟨y2, c2⟩, f2⟩, Y⟩
  have u2' : IntKind.u32.wrap (x2 : Int) = (x2 : Int) := IntWalk.u32_in _ (by omega)
  have X2 := Lib.hid Y
  clear Y X1
  go_wp2_with fail
  refine (fc_text 7 X2.out (by decide) hb).mono ?_
  rintro e w3 ⟨x3, r3, e3, rfl, ⟨⟨y3, c3⟩, f3⟩, Y⟩
  have X3 := Lib.hid Y
  clear Y X2
  go_wp2_with fail
  refine (fc_text 8 X3.out (by decide) hb).mono ?_
  rintro e w4 ⟨x4, r4, e4, rfl, ⟨⟨y4, c4⟩, f4⟩, Y⟩
  have X4 := Lib.hid Y
  clear Y X3
  obtain ⟨n9, z9, o9, r9, ans⟩ := HF.out _ _ _ _ _ _ X4.out rfl rfl rfl
  have N9 := Lib.hid n9
  have Z9 := Lib.hid z9
  have O9 := Lib.hid o9
  have R9 := Lib.hid r9
  have ANS := Lib.hid ans
  clear n9 z9 o9 r9 ans X4 HF
  go_wp2_with (first
    | (refine load_struct Tryz.underlying43 rfl Tryz.refMsgSize w.heap.size _ (.tmp 3) rfl rfl rfl N9.out Z9.out ?_)
    | (refine store_struct Tryz.refMsgSize (w.heap.size + 1) _ (.tmp 4) (.tmp 201) rfl rfl rfl rfl R9.out rfl Z9.out O9.out ?_)
    | fail)
  refine bodyPost_ret (results_cell_row rfl _ _ (w.heap.size + 1) 43 _ (0, 0) _ rfl (R9.out.setRow _) Tryz.underlying43 rfl (by rw [Z9.out]; exact Tryz.refMsgSize)) rfl ?_
  exact ⟨_, rfl, ANS.out⟩

set_option maxHeartbeats 1000000 in
theorem rfill_105 (H g : Nat) (bs r : List UInt8) (tag : Nat) (w : World) (h : RV w H g bs r 0) (_hb : bs.length ≤ 100000) (hl : r.length ≤ bs.length) (htag : tag < 65536) :
    Calls Tryz.prog 20 #[.pointer (some ⟨g, 0, none⟩), .agg (rzCells 105 tag)] w (fun e w' => ∃ cs', e = .returned (.agg cs') ∧ FillAns w H g 105 tag bs (tkL [.qid] r) cs' w') := by
  obtain ⟨W, hW⟩ : ∃ W, W = (w.alloc (.cells (rzCells 105 tag) 43)).alloc (.cells #[.int .u8 0, .int .u16 0, .int .u32 0, .string ⟨#[]⟩, .int .u32 0, .int .u32 0, .int .u32 0, .string ⟨#[]⟩, .string ⟨#[]⟩, .string ⟨#[]⟩, .int .u16 0, .slice none 0 0, .slice none 0 0, .int .u8 0, .int .u32 0, .int .u64 0, .int .u32 0, .int .u8 0, .int .u32 0, .string ⟨#[]⟩, .int .u64 0, .int .u32 0, .string ⟨#[]⟩, .int .u16 0, .int .u32 0, .int .u8 0, .int .u32 0, .int .u64 0, .int .u32 0, .int .u32 0, .int .u32 0, .int .u64 0, .string ⟨#[]⟩, .string ⟨#[]⟩, .string ⟨#[]⟩, .string ⟨#[]⟩] 43) := ⟨_, rfl⟩
  have k0 : Only (fun _ => False) w W := by rw [hW]; exact ((Only.refl _ w).alloc _).alloc _
  have n0 : Has W w.heap.size 43 (rzCells 105 tag) := by rw [hW]; exact (Has.new w _ _).alloc _
  have r0 : Has W (w.heap.size + 1) 43 RZ := by
    rw [hW]
    have := Has.new (w.alloc (.cells (rzCells 105 tag) 43)) 43 #[.int .u8 0, .int .u16 0, .int .u32 0, .string ⟨#[]⟩, .int .u32 0, .int .u32 0, .int .u32 0, .string ⟨#[]⟩, .string ⟨#[]⟩, .string ⟨#[]⟩, .int .u16 0, .slice none 0 0, .slice none 0 0, .int .u8 0, .int .u32 0, .int .u64 0, .int .u32 0, .int .u8 0, .int .u32 0, .string ⟨#[]⟩, .int .u64 0, .int .u32 0, .string ⟨#[]⟩, .int .u16 0, .int .u32 0, .int .u8 0, .int .u32 0, .int .u64 0, .int .u32 0, .int .u32 0, .int .u32 0, .int .u64 0, .string ⟨#[]⟩, .string ⟨#[]⟩, .string ⟨#[]⟩, .string ⟨#[]⟩]
    show Has _ _ _ #[.int .u8 0, .int .u16 0, .int .u32 0, .string ⟨#[]⟩, .int .u32 0, .int .u32 0, .int .u32 0, .string ⟨#[]⟩, .string ⟨#[]⟩, .string ⟨#[]⟩, .int .u16 0, .slice none 0 0, .slice none 0 0, .int .u8 0, .int .u32 0, .int .u64 0, .int .u32 0, .int .u8 0, .int .u32 0, .string ⟨#[]⟩, .int .u64 0, .int .u32 0, .string ⟨#[]⟩, .int .u16 0, .int .u32 0, .int .u8 0, .int .u32 0, .int .u64 0, .int .u32 0, .int .u32 0, .int .u32 0, .int .u64 0, .string ⟨#[]⟩, .string ⟨#[]⟩, .string ⟨#[]⟩, .string ⟨#[]⟩]
    simpa using this
  have X0 := Lib.hid (FC.start (ks := [.qid]) h hl (by decide) htag k0 n0)
  have d0 : W.cell? ⟨w.heap.size, 0, none⟩ = some (.int .u8 105) := n0.cell 0
  have HF := Lib.hid (fun (wr : World) (rr : List UInt8) (er : Int) (cs : Array Value) (m : Nat → F) (done : List F) (c : FC W H g w.heap.size bs (tkL [.qid] r) done [] rr er cs m wr) hd h0 h1 => c.fin (t := 105) (tag := tag) k0 r0 hd h0 h1)
  have HW := Lib.hid hW.symm
  clear h n0 r0 k0 hW
  go_enter Tryz.func20, Tryz.ntmps20
  go_upto_region 1 with fail
  refine (show Code.wp _ _ _ _ ((w.alloc (.cells (rzCells 105 tag) 43)).alloc (.cells #[.int .u8 0, .int .u16 0, .int .u32 0, .string ⟨#[]⟩, .int .u32 0, .int .u32 0, .int .u32 0, .string ⟨#[]⟩, .string ⟨#[]⟩, .string ⟨#[]⟩, .int .u16 0, .slice none 0 0, .slice none 0 0, .int .u8 0, .int .u32 0, .int .u64 0, .int .u32 0, .int .u8 0, .int .u32 0, .string ⟨#[]⟩, .int .u64 0, .int .u32 0, .string ⟨#[]⟩, .int .u16 0, .int .u32 0, .int .u8 0, .int .u32 0, .int .u64 0, .int .u32 0, .int .u32 0, .int .u32 0, .int .u64 0, .string ⟨#[]⟩, .string ⟨#[]⟩, .string ⟨#[]⟩, .string ⟨#[]⟩] 43)) from ?_)
  rw [HW.out]
  clear HW
  go_wp2_with fail
  refine (fc_qid 13 X0.out (by decide)).mono ?_
  rintro e w1 ⟨x1, r1, e1, rfl, hh, Y⟩
  have X1 := Lib.hid Y
  have hz : (rzCells 0 0).size = 36 := rfl
  have zc := X0.out.mg.size
  have f10 := hh.frozen 13
  obtain ⟨y10, g10⟩ : ∃ y, w1.cell? ⟨w.heap.size, 13, none⟩ = some y := ⟨_, (hh.cell 13).trans (Array.getElem?_eq_getElem (by omega))⟩
  have f11 := hh.frozen 14
  obtain ⟨y11, g11⟩ : ∃ y, w1.cell? ⟨w.heap.size, 14, none⟩ = some y := ⟨_, (hh.cell 14).trans (Array.getElem?_eq_getElem (by omega))⟩
  have f12 := hh.frozen 15
  obtain ⟨y12, g12⟩ : ∃ y, w1.cell? ⟨w.heap.size, 15, none⟩ = some y := ⟨_, (hh.cell 15).trans (Array.getElem?_eq_getElem (by omega))⟩
  clear Y X0 hh hz zc
  obtain ⟨n9, z9, o9, r9, ans⟩ := HF.out _ _ _ _ _ _ X1.out rfl rfl rfl
  have N9 := Lib.hid n9
  have Z9 := Lib.hid z9
  have O9 := Lib.hid o9
  have R9 := Lib.hid r9
  have ANS := Lib.hid ans
  clear n9 z9 o9 r9 ans X1 HF
  go_wp2_with (first
    | (refine load_struct Tryz.underlying43 rfl Tryz.refMsgSize w.heap.size _ (.tmp 3) rfl rfl rfl N9.out Z9.out ?_)
    | (refine store_struct Tryz.refMsgSize (w.heap.size + 1) _ (.tmp 4) (.tmp 201) rfl rfl rfl rfl R9.out rfl Z9.out O9.out ?_)
    | fail)
  refine bodyPost_ret (results_cell_row rfl _ _ (w.heap.size + 1) 43 _ (0, 0) _ rfl (R9.out.setRow _) Tryz.underlying43 rfl (by rw [Z9.out]; exact Tryz.refMsgSize)) rfl ?_
  exact ⟨_, rfl, ANS.out⟩

set_option maxHeartbeats 1000000 in
theorem rfill_107 (H g : Nat) (bs r : List UInt8) (tag : Nat) (w : World) (h : RV w H g bs r 0) (hb : bs.length ≤ 100000) (hl : r.length ≤ bs.length) (htag : tag < 65536) :
    Calls Tryz.prog 20 #[.pointer (some ⟨g, 0, none⟩), .agg (rzCells 107 tag)] w (fun e w' => ∃ cs', e = .returned (.agg cs') ∧ FillAns w H g 107 tag bs (tkL [.text] r) cs' w') := by
  obtain ⟨W, hW⟩ : ∃ W, W = (w.alloc (.cells (rzCells 107 tag) 43)).alloc (.cells #[.int .u8 0, .int .u16 0, .int .u32 0, .string ⟨#[]⟩, .int .u32 0, .int .u32 0, .int .u32 0, .string ⟨#[]⟩, .string ⟨#[]⟩, .string ⟨#[]⟩, .int .u16 0, .slice none 0 0, .slice none 0 0, .int .u8 0, .int .u32 0, .int .u64 0, .int .u32 0, .int .u8 0, .int .u32 0, .string ⟨#[]⟩, .int .u64 0, .int .u32 0, .string ⟨#[]⟩, .int .u16 0, .int .u32 0, .int .u8 0, .int .u32 0, .int .u64 0, .int .u32 0, .int .u32 0, .int .u32 0, .int .u64 0, .string ⟨#[]⟩, .string ⟨#[]⟩, .string ⟨#[]⟩, .string ⟨#[]⟩] 43) := ⟨_, rfl⟩
  have k0 : Only (fun _ => False) w W := by rw [hW]; exact ((Only.refl _ w).alloc _).alloc _
  have n0 : Has W w.heap.size 43 (rzCells 107 tag) := by rw [hW]; exact (Has.new w _ _).alloc _
  have r0 : Has W (w.heap.size + 1) 43 RZ := by
    rw [hW]
    have := Has.new (w.alloc (.cells (rzCells 107 tag) 43)) 43 #[.int .u8 0, .int .u16 0, .int .u32 0, .string ⟨#[]⟩, .int .u32 0, .int .u32 0, .int .u32 0, .string ⟨#[]⟩, .string ⟨#[]⟩, .string ⟨#[]⟩, .int .u16 0, .slice none 0 0, .slice none 0 0, .int .u8 0, .int .u32 0, .int .u64 0, .int .u32 0, .int .u8 0, .int .u32 0, .string ⟨#[]⟩, .int .u64 0, .int .u32 0, .string ⟨#[]⟩, .int .u16 0, .int .u32 0, .int .u8 0, .int .u32 0, .int .u64 0, .int .u32 0, .int .u32 0, .int .u32 0, .int .u64 0, .string ⟨#[]⟩, .string ⟨#[]⟩, .string ⟨#[]⟩, .string ⟨#[]⟩]
    show Has _ _ _ #[.int .u8 0, .int .u16 0, .int .u32 0, .string ⟨#[]⟩, .int .u32 0, .int .u32 0, .int .u32 0, .string ⟨#[]⟩, .string ⟨#[]⟩, .string ⟨#[]⟩, .int .u16 0, .slice none 0 0, .slice none 0 0, .int .u8 0, .int .u32 0, .int .u64 0, .int .u32 0, .int .u8 0, .int .u32 0, .string ⟨#[]⟩, .int .u64 0, .int .u32 0, .string ⟨#[]⟩, .int .u16 0, .int .u32 0, .int .u8 0, .int .u32 0, .int .u64 0, .int .u32 0, .int .u32 0, .int .u32 0, .int .u64 0, .string ⟨#[]⟩, .string ⟨#[]⟩, .string ⟨#[]⟩, .string ⟨#[]⟩]
    simpa using this
  have X0 := Lib.hid (FC.start (ks := [.text]) h hl (by decide) htag k0 n0)
  have d0 : W.cell? ⟨w.heap.size, 0, none⟩ = some (.int .u8 107) := n0.cell 0
  have HF := Lib.hid (fun (wr : World) (rr : List UInt8) (er : Int) (cs : Array Value) (m : Nat → F) (done : List F) (c : FC W H g w.heap.size bs (tkL [.text] r) done [] rr er cs m wr) hd h0 h1 => c.fin (t := 107) (tag := tag) k0 r0 hd h0 h1)
  have HW := Lib.hid hW.symm
  clear h n0 r0 k0 hW
  go_enter Tryz.func20, Tryz.ntmps20
  go_upto_region 1 with fail
  refine (show Code.wp _ _ _ _ ((w.alloc (.cells (rzCells 107 tag) 43)).alloc (.cells #[.int .u8 0, .int .u16 0, .int .u32 0, .string ⟨#[]⟩, .int .u32 0, .int .u32 0, .int .u32 0, .string ⟨#[]⟩, .string ⟨#[]⟩, .string ⟨#[]⟩, .int .u16 0, .slice none 0 0, .slice none 0 0, .int .u8 0, .int .u32 0, .int .u64 0, .int .u32 0, .int .u8 0, .int .u32 0, .string ⟨#[]⟩, .int .u64 0, .int .u32 0, .string ⟨#[]⟩, .int .u16 0, .int .u32 0, .int .u8 0, .int .u32 0, .int .u64 0, .int .u32 0, .int .u32 0, .int .u32 0, .int .u64 0, .string ⟨#[]⟩, .string ⟨#[]⟩, .string ⟨#[]⟩, .string ⟨#[]⟩] 43)) from ?_)
  rw [HW.out]
  clear HW
  go_wp2_with fail
  refine (fc_text 9 X0.out (by decide) hb).mono ?_
  rintro e w1 ⟨x1, r1, e1, rfl, ⟨⟨y1, c1⟩, f1⟩, Y⟩
  have X1 := Lib.hid Y
  clear Y X0
  obtain ⟨n9, z9, o9, r9, ans⟩ := HF.out _ _ _ _ _ _ X1.out rfl rfl rfl
  have N9 := Lib.hid n9
  have Z9 := Lib.hid z9
  have O9 := Lib.hid o9
  have R9 := Lib.hid r9
  have ANS := Lib.hid ans
  clear n9 z9 o9 r9 ans X1 HF
  go_wp2_with (first
    | (refine load_struct Tryz.underlying43 rfl Tryz.refMsgSize w.heap.size _ (.tmp 3) rfl rfl rfl N9.out Z9.out ?_)
    | (refine store_struct Tryz.refMsgSize (w.heap.size + 1) _ (.tmp 4) (.tmp 201) rfl rfl rfl rfl R9.out rfl Z9.out O9.out ?_)
    | fail)
  refine bodyPost_ret (results_cell_row rfl _ _ (w.heap.size + 1) 43 _ (0, 0) _ rfl (R9.out.setRow _) Tryz.underlying43 rfl (by rw [Z9.out]; exact Tryz.refMsgSize)) rfl ?_
  exact ⟨_, rfl, ANS.out⟩

set_option maxHeartbeats 1000000 in
theorem rfill_108 (H g : Nat) (bs r : List UInt8) (tag : Nat) (w : World) (h : RV w H g bs r 0) (_hb : bs.length ≤ 100000) (hl : r.length ≤ bs.length) (htag : tag < 65536) :
    Calls Tryz.prog 20 #[.pointer (some ⟨g, 0, none⟩), .agg (rzCells 108 tag)] w (fun e w' => ∃ cs', e = .returned (.agg cs') ∧ FillAns w H g 108 tag bs (tkL [.num 2] r) cs' w') := by
  obtain ⟨W, hW⟩ : ∃ W, W = (w.alloc (.cells (rzCells 108 tag) 43)).alloc (.cells #[.int .u8 0, .int .u16 0, .int .u32 0, .string ⟨#[]⟩, .int .u32 0, .int .u32 0, .int .u32 0, .string ⟨#[]⟩, .string ⟨#[]⟩, .string ⟨#[]⟩, .int .u16 0, .slice none 0 0, .slice none 0 0, .int .u8 0, .int .u32 0, .int .u64 0, .int .u32 0, .int .u8 0, .int .u32 0, .string ⟨#[]⟩, .int .u64 0, .int .u32 0, .string ⟨#[]⟩, .int .u16 0, .int .u32 0, .int .u8 0, .int .u32 0, .int .u64 0, .int .u32 0, .int .u32 0, .int .u32 0, .int .u64 0, .string ⟨#[]⟩, .string ⟨#[]⟩, .string ⟨#[]⟩, .string ⟨#[]⟩] 43) := ⟨_, rfl⟩
  have k0 : Only (fun _ => False) w W := by rw [hW]; exact ((Only.refl _ w).alloc _).alloc _
  have n0 : Has W w.heap.size 43 (rzCells 108 tag) := by rw [hW]; exact (Has.new w _ _).alloc _
  have r0 : Has W (w.heap.size + 1) 43 RZ := by
    rw [hW]
    have := Has.new (w.alloc (.cells (rzCells 108 tag) 43)) 43 #[.int .u8 0, .int .u16 0, .int .u32 0, .string ⟨#[]⟩, .int .u32 0, .int .u32 0, .int .u32 0, .string ⟨#[]⟩, .string ⟨#[]⟩, .string ⟨#[]⟩, .int .u16 0, .slice none 0 0, .slice none 0 0, .int .u8 0, .int .u32 0, .int .u64 0, .int .u32 0, .int .u8 0, .int .u32 0, .string ⟨#[]⟩, .int .u64 0, .int .u32 0, .string ⟨#[]⟩, .int .u16 0, .int .u32 0, .int .u8 0, .int .u32 0, .int .u64 0, .int .u32 0, .int .u32 0, .int .u32 0, .int .u64 0, .string ⟨#[]⟩, .string ⟨#[]⟩, .string ⟨#[]⟩, .string ⟨#[]⟩]
    show Has _ _ _ #[.int .u8 0, .int .u16 0, .int .u32 0, .string ⟨#[]⟩, .int .u32 0, .int .u32 0, .int .u32 0, .string ⟨#[]⟩, .string ⟨#[]⟩, .string ⟨#[]⟩, .int .u16 0, .slice none 0 0, .slice none 0 0, .int .u8 0, .int .u32 0, .int .u64 0, .int .u32 0, .int .u8 0, .int .u32 0, .string ⟨#[]⟩, .int .u64 0, .int .u32 0, .string ⟨#[]⟩, .int .u16 0, .int .u32 0, .int .u8 0, .int .u32 0, .int .u64 0, .int .u32 0, .int .u32 0, .int .u32 0, .int .u64 0, .string ⟨#[]⟩, .string ⟨#[]⟩, .string ⟨#[]⟩, .string ⟨#[]⟩]
    simpa using this
  have X0 := Lib.hid (FC.start (ks := [.num 2]) h hl (by decide) htag k0 n0)
  have d0 : W.cell? ⟨w.heap.size, 0, none⟩ = some (.int .u8 108) := n0.cell 0
  have HF := Lib.hid (fun (wr : World) (rr : List UInt8) (er : Int) (cs : Array Value) (m : Nat → F) (done : List F) (c : FC W H g w.heap.size bs (tkL [.num 2] r) done [] rr er cs m wr) hd h0 h1 => c.fin (t := 108) (tag := tag) k0 r0 hd h0 h1)
  have HW := Lib.hid hW.symm
  clear h n0 r0 k0 hW
  go_enter Tryz.func20, Tryz.ntmps20
  go_upto_region 1 with fail
  refine (show Code.wp _ _ _ _ ((w.alloc (.cells (rzCells 108 tag) 43)).alloc (.cells #[.int .u8 0, .int .u16 0, .int .u32 0, .string ⟨#[]⟩, .int .u32 0, .int .u32 0, .int .u32 0, .string ⟨#[]⟩, .string ⟨#[]⟩, .string ⟨#[]⟩, .int .u16 0, .slice none 0 0, .slice none 0 0, .int .u8 0, .int .u32 0, .int .u64 0, .int .u32 0, .int .u8 0, .int .u32 0, .string ⟨#[]⟩, .int .u64 0, .int .u32 0, .string ⟨#[]⟩, .int .u16 0, .int .u32 0, .int .u8 0, .int .u32 0, .int .u64 0, .int .u32 0, .int .u32 0, .int .u32 0, .int .u64 0, .string ⟨#[]⟩, .string ⟨#[]⟩, .string ⟨#[]⟩, .string ⟨#[]⟩] 43)) from ?_)
  rw [HW.out]
  clear HW
  go_wp2_with fail
  refine (fc_num 2 10 .u16 rfl (by decide) X0.out (by decide)).mono ?_
  rintro e w1 ⟨x1, r1, e1, rfl, hx1, ⟨⟨y1, c1⟩, f1⟩, Y⟩
  have u1' : IntKind.u16.wrap (x1 : Int) = (x1 : Int) := IntWalk.u16_in _ (by omega)
  have X1 := Lib.hid Y
  clear Y X0
  obtain ⟨n9, z9, o9, r9, ans⟩ := HF.out _ _ _ _ _ _ X1.out rfl rfl rfl
  have N9 := Lib.hid n9
  have Z9 := Lib.hid z9
  have O9 := Lib.hid o9
  have R9 := Lib.hid r9
  have ANS := Lib.hid ans
  clear n9 z9 o9 r9 ans X1 HF
  go_wp2_with (first
    | (refine load_struct Tryz.underlying43 rfl Tryz.refMsgSize w.heap.size _ (.tmp 3) rfl rfl rfl N9.out Z9.out ?_)
    | (refine store_struct Tryz.refMsgSize (w.heap.size + 1) _ (.tmp 4) (.tmp 201) rfl rfl rfl rfl R9.out rfl Z9.out O9.out ?_)
    | fail)
  refine bodyPost_ret (results_cell_row rfl _ _ (w.heap.size + 1) 43 _ (0, 0) _ rfl (R9.out.setRow _) Tryz.underlying43 rfl (by rw [Z9.out]; exact Tryz.refMsgSize)) rfl ?_
  exact ⟨_, rfl, ANS.out⟩

set_option maxHeartbeats 1000000 in
theorem rfill_109 (H g : Nat) (bs r : List UInt8) (tag : Nat) (w : World) (h : RV w H g bs r 0) (_hb : bs.length ≤ 100000) (hl : r.length ≤ bs.length) (htag : tag < 65536) :
    Calls Tryz.prog 20 #[.pointer (some ⟨g, 0, none⟩), .agg (rzCells 109 tag)] w (fun e w' => ∃ cs', e = .returned (.agg cs') ∧ FillAns w H g 109 tag bs (tkL [] r) cs' w') := by
  obtain ⟨W, hW⟩ : ∃ W, W = (w.alloc (.cells (rzCells 109 tag) 43)).alloc (.cells #[.int .u8 0, .int .u16 0, .int .u32 0, .string ⟨#[]⟩, .int .u32 0, .int .u32 0, .int .u32 0, .string ⟨#[]⟩, .string ⟨#[]⟩, .string ⟨#[]⟩, .int .u16 0, .slice none 0 0, .slice none 0 0, .int .u8 0, .int .u32 0, .int .u64 0, .int .u32 0, .int .u8 0, .int .u32 0, .string ⟨#[]⟩, .int .u64 0, .int .u32 0, .string ⟨#[]⟩, .int .u16 0, .int .u32 0, .int .u8 0, .int .u32 0, .int .u64 0, .int .u32 0, .int .u32 0, .int .u32 0, .int .u64 0, .string ⟨#[]⟩, .string ⟨#[]⟩, .string ⟨#[]⟩, .string ⟨#[]⟩] 43) := ⟨_, rfl⟩
  have k0 : Only (fun _ => False) w W := by rw [hW]; exact ((Only.refl _ w).alloc _).alloc _
  have n0 : Has W w.heap.size 43 (rzCells 109 tag) := by rw [hW]; exact (Has.new w _ _).alloc _
  have r0 : Has W (w.heap.size + 1) 43 RZ := by
    rw [hW]
    have := Has.new (w.alloc (.cells (rzCells 109 tag) 43)) 43 #[.int .u8 0, .int .u16 0, .int .u32 0, .string ⟨#[]⟩, .int .u32 0, .int .u32 0, .int .u32 0, .string ⟨#[]⟩, .string ⟨#[]⟩, .string ⟨#[]⟩, .int .u16 0, .slice none 0 0, .slice none 0 0, .int .u8 0, .int .u32 0, .int .u64 0, .int .u32 0, .int .u8 0, .int .u32 0, .string ⟨#[]⟩, .int .u64 0, .int .u32 0, .string ⟨#[]⟩, .int .u16 0, .int .u32 0, .int .u8 0, .int .u32 0, .int .u64 0, .int .u32 0, .int .u32 0, .int .u32 0, .int .u64 0, .string ⟨#[]⟩, .string ⟨#[]⟩, .string ⟨#[]⟩, .string ⟨#[]⟩]
    show Has _ _ _ #[.int .u8 0, .int .u16 0, .int .u32 0, .string ⟨#[]⟩, .int .u32 0, .int .u32 0, .int .u32 0, .string ⟨#[]⟩, .string ⟨#[]⟩, .string ⟨#[]⟩, .int .u16 0, .slice none 0 0, .slice none 0 0, .int .u8 0, .int .u32 0, .int .u64 0, .int .u32 0, .int .u8 0, .int .u32 0, .string ⟨#[]⟩, .int .u64 0, .int .u32 0, .string ⟨#[]⟩, .int .u16 0, .int .u32 0, .int .u8 0, .int .u32 0, .int .u64 0, .int .u32 0, .int .u32 0, .int .u32 0, .int .u64 0, .string ⟨#[]⟩, .string ⟨#[]⟩, .string ⟨#[]⟩, .string ⟨#[]⟩]
    simpa using this
  have X0 := Lib.hid (FC.start (ks := []) h hl (by decide) htag k0 n0)
  have d0 : W.cell? ⟨w.heap.size, 0, none⟩ = some (.int .u8 109) := n0.cell 0
  have HF := Lib.hid (fun (wr : World) (rr : List UInt8) (er : Int) (cs : Array Value) (m : Nat → F) (done : List F) (c : FC W H g w.heap.size bs (tkL [] r) done [] rr er cs m wr) hd h0 h1 => c.fin (t := 109) (tag := tag) k0 r0 hd h0 h1)
  have HW := Lib.hid hW.symm
  clear h n0 r0 k0 hW
  go_enter Tryz.func20, Tryz.ntmps20
  go_upto_region 1 with fail
  refine (show Code.wp _ _ _ _ ((w.alloc (.cells (rzCells 109 tag) 43)).alloc (.cells #[.int .u8 0, .int .u16 0, .int .u32 0, .string ⟨#[]⟩, .int .u32 0, .int .u32 0, .int .u32 0, .string ⟨#[]⟩, .string ⟨#[]⟩, .string ⟨#[]⟩, .int .u16 0, .slice none 0 0, .slice none 0 0, .int .u8 0, .int .u32 0, .int .u64 0, .int .u32 0, .int .u8 0, .int .u32 0, .string ⟨#[]⟩, .int .u64 0, .int .u32 0, .string ⟨#[]⟩, .int .u16 0, .int .u32 0, .int .u8 0, .int .u32 0, .int .u64 0, .int .u32 0, .int .u32 0, .int .u32 0, .int .u64 0, .string ⟨#[]⟩, .string ⟨#[]⟩, .string ⟨#[]⟩, .string ⟨#[]⟩] 43)) from ?_)
  rw [HW.out]
  clear HW
  obtain ⟨n9, z9, o9, r9, ans⟩ := HF.out _ _ _ _ _ _ X0.out rfl rfl rfl
  have N9 := Lib.hid n9
  have Z9 := Lib.hid z9
  have O9 := Lib.hid o9
  have R9 := Lib.hid r9
  have ANS := Lib.hid ans
  clear n9 z9 o9 r9 ans X0 HF
  go_wp2_with (first
    | (refine load_struct Tryz.underlying43 rfl Tryz.refMsgSize w.heap.size _ (.tmp 3) rfl rfl rfl N9.out Z9.out ?_)
    | (refine store_struct Tryz.refMsgSize (w.heap.size + 1) _ (.tmp 4) (.tmp 201) rfl rfl rfl rfl R9.out rfl Z9.out O9.out ?_)
    | fail)
  refine bodyPost_ret (results_cell_row rfl _ _ (w.heap.size + 1) 43 _ (0, 0) _ rfl (R9.out.setRow _) Tryz.underlying43 rfl (by rw [Z9.out]; exact Tryz.refMsgSize)) rfl ?_
  exact ⟨_, rfl, ANS.out⟩

set_option maxHeartbeats 1000000 in
theorem rfill_112 (H g : Nat) (bs r : List UInt8) (tag : Nat) (w : World) (h : RV w H g bs r 0) (_hb : bs.length ≤ 100000) (hl : r.length ≤ bs.length) (htag : tag < 65536) :
    Calls Tryz.prog 20 #[.pointer (some ⟨g, 0, none⟩), .agg (rzCells 112 tag)] w (fun e w' => ∃ cs', e = .returned (.agg cs') ∧ FillAns w H g 112 tag bs (tkL [.num 4, .num 1] r) cs' w') := by
  obtain ⟨W, hW⟩ : ∃ W, W = (w.alloc (.cells (rzCells 112 tag) 43)).alloc (.cells #[.int .u8 0, .int .u16 0, .int .u32 0, .string ⟨#[]⟩, .int .u32 0, .int .u32 0, .int .u32 0, .string ⟨#[]⟩, .string ⟨#[]⟩, .string ⟨#[]⟩, .int .u16 0, .slice none 0 0, .slice none 0 0, .int .u8 0, .int .u32 0, .int .u64 0, .int .u32 0, .int .u8 0, .int .u32 0, .string ⟨#[]⟩, .int .u64 0, .int .u32 0, .string ⟨#[]⟩, .int .u16 0, .int .u32 0, .int .u8 0, .int .u32 0, .int .u64 0, .int .u32 0, .int .u32 0, .int .u32 0, .int .u64 0, .string ⟨#[]⟩, .string ⟨#[]⟩, .string ⟨#[]⟩, .string ⟨#[]⟩] 43) := ⟨_, rfl⟩
  have k0 : Only (fun _ => False) w W := by rw [hW]; exact ((Only.refl _ w).alloc _).alloc _
  have n0 : Has W w.heap.size 43 (rzCells 112 tag) := by rw [hW]; exact (Has.new w _ _).alloc _
  have r0 : Has W (w.heap.size + 1) 43 RZ := by
    rw [hW]
    have := Has.new (w.alloc (.cells (rzCells 112 tag) 43)) 43 #[.int .u8 0, .int .u16 0, .int .u32 0, .string ⟨#[]⟩, .int .u32 0, .int .u32 0, .int .u32 0, .string ⟨#[]⟩, .string ⟨#[]⟩, .string ⟨#[]⟩, .int .u16 0, .slice none 0 0, .slice none 0 0, .int .u8 0, .int .u32 0, .int .u64 0, .int .u32 0, .int .u8 0, .int .u32 0, .string ⟨#[]⟩, .int .u64 0, .int .u32 0, .string ⟨#[]⟩, .int .u16 0, .int .u32 0, .int .u8 0, .int .u32 0, .int .u64 0, .int .u32 0, .int .u32 0, .int .u32 0, .int .u64 0, .string ⟨#[]⟩, .string ⟨#[]⟩, .string ⟨#[]⟩, .string ⟨#[]⟩]
    show Has _ _ _ #[.int .u8 0, .int .u16 0, .int .u32 0, .string ⟨#[]⟩, .int .u32 0, .int .u32 0, .int .u32 0, .string ⟨#[]⟩, .string ⟨#[]⟩, .string ⟨#[]⟩, .int .u16 0, .slice none 0 0, .slice none 0 0, .int .u8 0, .int .u32 0, .int .u64 0, .int .u32 0, .int .u8 0, .int .u32 0, .string ⟨#[]⟩, .int .u64 0, .int .u32 0, .string ⟨#[]⟩, .int .u16 0, .int .u32 0, .int .u8 0, .int .u32 0, .int .u64 0, .int .u32 0, .int .u32 0, .int .u32 0, .int .u64 0, .string ⟨#[]⟩, .string ⟨#[]⟩, .string ⟨#[]⟩, .string ⟨#[]⟩]
    simpa using this
  have X0 := Lib.hid (FC.start (ks := [.num 4, .num 1]) h hl (by decide) htag k0 n0)
  have d0 : W.cell? ⟨w.heap.size, 0, none⟩ = some (.int .u8 112) := n0.cell 0
  have HF := Lib.hid (fun (wr : World) (rr : List UInt8) (er : Int) (cs : Array Value) (m : Nat → F) (done : List F) (c : FC W H g w.heap.size bs (tkL [.num 4, .num 1] r) done [] rr er cs m wr) hd h0 h1 => c.fin (t := 112) (tag := tag) k0 r0 hd h0 h1)
  have HW := Lib.hid hW.symm
  clear h n0 r0 k0 hW
  go_enter Tryz.func20, Tryz.ntmps20
  go_upto_region 1 with fail
  refine (show Code.wp _ _ _ _ ((w.alloc (.cells (rzCells 112 tag) 43)).alloc (.cells #[.int .u8 0, .int .u16 0, .int .u32 0, .string ⟨#[]⟩, .int .u32 0, .int .u32 0, .int .u32 0, .string ⟨#[]⟩, .string ⟨#[]⟩, .string ⟨#[]⟩, .int .u16 0, .slice none 0 0, .slice none 0 0, .int .u8 0, .int .u32 0, .int .u64 0, .int .u32 0, .int .u8 0, .int .u32 0, .string ⟨#[]⟩, .int .u64 0, .int .u32 0, .string ⟨#[]⟩, .int .u16 0, .int .u32 0, .int .u8 0, .int .u32 0, .int .u64 0, .int .u32 0, .int .u32 0, .int .u32 0, .int .u64 0, .string ⟨#[]⟩, .string ⟨#[]⟩, .string ⟨#[]⟩, .string ⟨#[]⟩] 43)) from ?_)
  rw [HW.out]
  clear HW
  go_wp2_with fail
  refine (fc_num 4 4 .u32 rfl (by decide) X0.out (by decide)).mono ?_
  rintro e w1 ⟨x1, r1, e1, rfl, hx1, ⟨⟨y1, c1⟩, f1⟩, Y⟩
  have u1' : IntKind.u32.wrap (x1 : Int) = (x1 : Int) := IntWalk.u32_in _ (by omega)
  have X1 := Lib.hid Y
  clear Y X0
  go_wp2_with fail
  refine (fc_num 1 17 .u8 rfl (by decide) X1.out (by decide)).mono ?_
  rintro e w2 ⟨x2, r2, e2, rfl, hx2, ⟨⟨y2, c2⟩, f2⟩, Y⟩
  have u2' : IntKind.u8.wrap (x2 : Int) = (x2 : Int) := IntWalk.u8_in _ (by omega)
  have X2 := Lib.hid Y
  clear Y X1
  obtain ⟨n9, z9, o9, r9, ans⟩ := HF.out _ _ _ _ _ _ X2.out rfl rfl rfl
  have N9 := Lib.hid n9
  have Z9 := Lib.hid z9
  have O9 := Lib.hid o9
  have R9 := Lib.hid r9
  have ANS := Lib.hid ans
  clear n9 z9 o9 r9 ans X2 HF
  go_wp2_with (first
    | (refine load_struct Tryz.underlying43 rfl Tryz.refMsgSize w.heap.size _ (.tmp 3) rfl rfl rfl N9.out Z9.out ?_)
    | (refine store_struct Tryz.refMsgSize (w.heap.size + 1) _ (.tmp 4) (.tmp 201) rfl rfl rfl rfl R9.out rfl Z9.out O9.out ?_)
    | fail)
  refine bodyPost_ret (results_cell_row rfl _ _ (w.heap.size + 1) 43 _ (0, 0) _ rfl (R9.out.setRow _) Tryz.underlying43 rfl (by rw [Z9.out]; exact Tryz.refMsgSize)) rfl ?_
  exact ⟨_, rfl, ANS.out⟩

set_option maxHeartbeats 1000000 in
theorem rfill_113 (H g : Nat) (bs r : List UInt8) (tag : Nat) (w : World) (h : RV w H g bs r 0) (_hb : bs.length ≤ 100000) (hl : r.length ≤ bs.length) (htag : tag < 65536) :
    Calls Tryz.prog 20 #[.pointer (some ⟨g, 0, none⟩), .agg (rzCells 113 tag)] w (fun e w' => ∃ cs', e = .returned (.agg cs') ∧ FillAns w H g 113 tag bs (tkL [.qid, .num 4] r) cs' w') := by
  obtain ⟨W, hW⟩ : ∃ W, W = (w.alloc (.cells (rzCells 113 tag) 43)).alloc (.cells #[.int .u8 0, .int .u16 0, .int .u32 0, .string ⟨#[]⟩, .int .u32 0, .int .u32 0, .int .u32 0, .string ⟨#[]⟩, .string ⟨#[]⟩, .string ⟨#[]⟩, .int .u16 0, .slice none 0 0, .slice none 0 0, .int .u8 0, .int .u32 0, .int .u64 0, .int .u32 0, .int .u8 0, .int .u32 0, .string ⟨#[]⟩, .int .u64 0, .int .u32 0, .string ⟨#[]⟩, .int .u16 0, .int .u32 0, .int .u8 0, .int .u32 0, .int .u64 0, .int .u32 0, .int .u32 0, .int .u32 0, .int .u64 0, .string ⟨#[]⟩, .string ⟨#[]⟩, .string ⟨#[]⟩, .string ⟨#[]⟩] 43) := ⟨_, rfl⟩
  have k0 : Only (fun _ => False) w W := by rw [hW]; exact ((Only.refl _ w).alloc _).alloc _
  have n0 : Has W w.heap.size 43 (rzCells 113 tag) := by rw [hW]; exact (Has.new w _ _).alloc _
  have r0 : Has W (w.heap.size + 1) 43 RZ := by
    rw [hW]
    have := Has.new (w.alloc (.cells (rzCells 113 tag) 43)) 43 #[.int .u8 0, .int .u16 0, .int .u32 0, .string ⟨#[]⟩, .int .u32 0, .int .u32 0, .int .u32 0, .string ⟨#[]⟩, .string ⟨#[]⟩, .string ⟨#[]⟩, .int .u16 0, .slice none 0 0, .slice none 0 0, .int .u8 0, .int .u32 0, .int .u64 0, .int .u32 0, .int .u8 0, .int .u32 0, .string ⟨#[]⟩, .int .u64 0, .int .u32 0, .string ⟨#[]⟩, .int .u16 0, .int .u32 0, .int .u8 0, .int .u32 0, .int .u64 0, .int .u32 0, .int .u32 0, .int .u32 0, .int .u64 0, .string ⟨#[]⟩, .string ⟨#[]⟩, .string ⟨#[]⟩, .string ⟨#[]⟩]
    show Has _ _ _ #[.int .u8 0, .int .u16 0, .int .u32 0, .string ⟨#[]⟩, .int .u32 0, .int .u32 0, .int .u32 0, .string ⟨#[]⟩, .string ⟨#[]⟩, .string ⟨#[]⟩, .int .u16 0, .slice none 0 0, .slice none 0 0, .int .u8 0, .int .u32 0, .int .u64 0, .int .u32 0, .int .u8 0, .int .u32 0, .string ⟨#[]⟩, .int .u64 0, .int .u32 0, .string ⟨#[]⟩, .int .u16 0, .int .u32 0, .int .u8 0, .int .u32 0, .int .u64 0, .int .u32 0, .int .u32 0, .int .u32 0, .int .u64 0, .string ⟨#[]⟩, .string ⟨#[]⟩, .string ⟨#[]⟩, .string ⟨#[]⟩]
    simpa using this
  have X0 := Lib.hid (FC.start (ks := [.qid, .num 4]) h hl (by decide) htag k0 n0)
  have d0 : W.cell? ⟨w.heap.size, 0, none⟩ = some (.int .u8 113) := n0.cell 0
  have HF := Lib.hid (fun (wr : World) (rr : List UInt8) (er : Int) (cs : Array Value) (m : Nat → F) (done : List F) (c : FC W H g w.heap.size bs (tkL [.qid, .num 4] r) done [] rr er cs m wr) hd h0 h1 => c.fin (t := 113) (tag := tag) k0 r0 hd h0 h1)
  have HW := Lib.hid hW.symm
  clear h n0 r0 k0 hW
  go_enter Tryz.func20, Tryz.ntmps20
  go_upto_region 1 with fail
  refine (show Code.wp _ _ _ _ ((w.alloc (.cells (rzCells 113 tag) 43)).alloc (.cells #[.int .u8 0, .int .u16 0, .int .u32 0, .string ⟨#[]⟩, .int .u32 0, .int .u32 0, .int .u32 0, .string ⟨#[]⟩, .string ⟨#[]⟩, .string ⟨#[]⟩, .int .u16 0, .slice none 0 0, .slice none 0 0, .int .u8 0, .int .u32 0, .int .u64 0, .int .u32 0, .int .u8 0, .int .u32 0, .string ⟨#[]⟩, .int .u64 0, .int .u32 0, .string ⟨#[]⟩, .int .u16 0, .int .u32 0, .int .u8 0, .int .u32 0, .int .u64 0, .int .u32 0, .int .u32 0, .int .u32 0, .int .u64 0, .string ⟨#[]⟩, .string ⟨#[]⟩, .string ⟨#[]⟩, .string ⟨#[]⟩] 43)) from ?_)
  rw [HW.out]
  clear HW
  go_wp2_with fail
  refine (fc_qid 13 X0.out (by decide)).mono ?_
  rintro e w1 ⟨x1, r1, e1, rfl, hh, Y⟩
  have X1 := Lib.hid Y
  have hz : (rzCells 0 0).size = 36 := rfl
  have zc := X0.out.mg.size
  have f10 := hh.frozen 13
  obtain ⟨y10, g10⟩ : ∃ y, w1.cell? ⟨w.heap.size, 13, none⟩ = some y := ⟨_, (hh.cell 13).trans (Array.getElem?_eq_getElem (by omega))⟩
  have f11 := hh.frozen 14
  obtain ⟨y11, g11⟩ : ∃ y, w1.cell? ⟨w.heap.size, 14, none⟩ = some y := ⟨_, (hh.cell 14).trans (Array.getElem?_eq_getElem (by omega))⟩
  have f12 := hh.frozen 15
  obtain ⟨y12, g12⟩ : ∃ y, w1.cell? ⟨w.heap.size, 15, none⟩ = some y := ⟨_, (hh.cell 15).trans (Array.getElem?_eq_getElem (by omega))⟩
  clear Y X0 hh hz zc
  go_wp2_with fail
  refine (fc_num 4 16 .u32 rfl (by decide) X1.out (by decide)).mono ?_
  rintro e w2 ⟨x2, r2, e2, rfl, hx2, ⟨⟨y2, c2⟩, f2⟩, Y⟩
  have u2' : IntKind.u32.wrap (x2 : Int) = (x2 : Int) := IntWalk.u32_in _ (by omega)
  have X2 := Lib.hid Y
  clear Y X1
  obtain ⟨n9, z9, o9, r9, ans⟩ := HF.out _ _ _ _ _ _ X2.out rfl rfl rfl
  have N9 := Lib.hid n9
  have Z9 := Lib.hid z9
  have O9 := Lib.hid o9
  have R9 := Lib.hid r9
  have ANS := Lib.hid ans
  clear n9 z9 o9 r9 ans X2 HF
  go_wp2_with (first
    | (refine load_struct Tryz.underlying43 rfl Tryz.refMsgSize w.heap.size _ (.tmp 3) rfl rfl rfl N9.out Z9.out ?_)
    | (refine store_struct Tryz.refMsgSize (w.heap.size + 1) _ (.tmp 4) (.tmp 201) rfl rfl rfl rfl R9.out rfl Z9.out O9.out ?_)
    | fail)
  refine bodyPost_ret (results_cell_row rfl _ _ (w.heap.size + 1) 43 _ (0, 0) _ rfl (R9.out.setRow _) Tryz.underlying43 rfl (by rw [Z9.out]; exact Tryz.refMsgSize)) rfl ?_
  exact ⟨_, rfl, ANS.out⟩

set_option maxHeartbeats 1000000 in
theorem rfill_114 (H g : Nat) (bs r : List UInt8) (tag : Nat) (w : World) (h : RV w H g bs r 0) (hb : bs.length ≤ 100000) (hl : r.length ≤ bs.length) (htag : tag < 65536) :
    Calls Tryz.prog 20 #[.pointer (some ⟨g, 0, none⟩), .agg (rzCells 114 tag)] w (fun e w' => ∃ cs', e = .returned (.agg cs') ∧ FillAns w H g 114 tag bs (tkL [.num 4, .text, .num 4, .num 1] r) cs' w') := by
  obtain ⟨W, hW⟩ : ∃ W, W = (w.alloc (.cells (rzCells 114 tag) 43)).alloc (.cells #[.int .u8 0, .int .u16 0, .int .u32 0, .string ⟨#[]⟩, .int .u32 0, .int .u32 0, .int .u32 0, .string ⟨#[]⟩, .string ⟨#[]⟩, .string ⟨#[]⟩, .int .u16 0, .slice none 0 0, .slice none 0 0, .int .u8 0, .int .u32 0, .int .u64 0, .int .u32 0, .int .u8 0, .int .u32 0, .string ⟨#[]⟩, .int .u64 0, .int .u32 0, .string ⟨#[]⟩, .int .u16 0, .int .u32 0, .int .u8 0, .int .u32 0, .int .u64 0, .int .u32 0, .int .u32 0, .int .u32 0, .int .u64 0, .string ⟨#[]⟩, .string ⟨#[]⟩, .string ⟨#[]⟩, .string ⟨#[]⟩] 43) := ⟨_, rfl⟩
  have k0 : Only (fun _ => False) w W := by rw [hW]; exact ((Only.refl _ w).alloc _).alloc _
  have n0 : Has W w.heap.size 43 (rzCells 114 tag) := by rw [hW]; exact (Has.new w _ _).alloc _
  have r0 : Has W (w.heap.size + 1) 43 RZ := by
    rw [hW]
    have := Has.new (w.alloc (.cells (rzCells 114 tag) 43)) 43 #[.int .u8 0, .int .u16 0, .int .u32 0, .string ⟨#[]⟩, .int .u32 0, .int .u32 0, .int .u32 0, .string ⟨#[]⟩, .string ⟨#[]⟩, .string ⟨#[]⟩, .int .u16 0, .slice none 0 0, .slice none 0 0, .int .u8 0, .int .u32 0, .int .u64 0, .int .u32 0, .int .u8 0, .int .u32 0, .string ⟨#[]⟩, .int .u64 0, .int .u32 0, .string ⟨#[]⟩, .int .u16 0, .int .u32 0, .int .u8 0, .int .u32 0, .int .u64 0, .int .u32 0, .int .u32 0, .int .u32 0, .int .u64 0, .string ⟨#[]⟩, .string ⟨#[]⟩, .string ⟨#[]⟩, .string ⟨#[]⟩]
    show Has _ _ _ #[.int .u8 0, .int .u16 0, .int .u32 0, .string ⟨#[]⟩, .int .u32 0, .int .u32 0, .int .u32 0, .string ⟨#[]⟩, .string ⟨#[]⟩, .string ⟨#[]⟩, .int .u16 0, .slice none 0 0, .slice none 0 0, .int .u8 0, .int .u32 0, .int .u64 0, .int .u32 0, .int .u8 0, .int .u32 0, .string ⟨#[]⟩, .int .u64 0, .int .u32 0, .string ⟨#[]⟩, .int .u16 0, .int .u32 0, .int .u8 0, .int .u32 0, .int .u64 0, .int .u32 0, .int .u32 0, .int .u32 0, .int .u64 0, .string ⟨#[]⟩, .string ⟨#[]⟩, .string ⟨#[]⟩, .string ⟨#[]⟩]
    simpa using this
  have X0 := Lib.hid (FC.start (ks := [.num 4, .text, .num 4, .num 1]) h hl (by decide) htag k0 n0)
  have d0 : W.cell? ⟨w.heap.size, 0, none⟩ = some (.int .u8 114) := n0.cell 0
  have HF := Lib.hid (fun (wr : World) (rr : List UInt8) (er : Int) (cs : Array Value) (m : Nat → F) (done : List F) (c : FC W H g w.heap.size bs (tkL [.num 4, .text, .num 4, .num 1] r) done [] rr er cs m wr) hd h0 h1 => c.fin (t := 114) (tag := tag) k0 r0 hd h0 h1)
  have HW := Lib.hid hW.symm
  clear h n0 r0 k0 hW
  go_enter Tryz.func20, Tryz.ntmps20
  go_upto_region 1 with fail
  refine (show Code.wp _ _ _ _ ((w.alloc (.cells (rzCells 114 tag) 43)).alloc (.cells #[.int .u8 0, .int .u16 0, .int .u32 0, .string ⟨#[]⟩, .int .u32 0, .int .u32 0, .int .u32 0, .string ⟨#[]⟩, .string ⟨#[]⟩, .string ⟨#[]⟩, .int .u16 0, .slice none 0 0, .slice none 0 0, .int .u8 0, .int .u32 0, .int .u64 0, .int .u32 0, .int .u8 0, .int .u32 0, .string ⟨#[]⟩, .int .u64 0, .int .u32 0, .string ⟨#[]⟩, .int .u16 0, .int .u32 0, .int .u8 0, .int .u32 0, .int .u64 0, .int .u32 0, .int .u32 0, .int .u32 0, .int .u64 0, .string ⟨#[]⟩, .string ⟨#[]⟩, .string ⟨#[]⟩, .string ⟨#[]⟩] 43)) from ?_)
  rw [HW.out]
  clear HW
  go_wp2_with fail
  refine (fc_num 4 4 .u32 rfl (by decide) X0.out (by decide)).mono ?_
  rintro e w1 ⟨x1, r1, e1, rfl, hx1, ⟨⟨y1, c1⟩, f1⟩, Y⟩
  have u1' : IntKind.u32.wrap (x1 : Int) = (x1 : Int) := IntWalk.u32_in _ (by omega)
  have X1 := Lib.hid Y
  clear Y X0
  go_wp2_with fail
  refine (fc_text 19 X1.out (by decide) hb).mono ?_
  rintro e w2 ⟨x2, r2, e2, rfl, ⟨⟨y2, c2⟩, f2⟩, Y⟩
  have X2 := Lib.hid Y
  clear Y X1
  go_wp2_with fail
  refine (fc_num 4 18 .u32 rfl (by decide) X2.out (by decide)).mono ?_
  rintro e w3 ⟨x3, r3, e3, rfl, hx3, ⟨⟨y3, c3⟩, f3⟩, Y⟩
  have u3' : IntKind.u32.wrap (x3 : Int) = (x3 : Int) := IntWalk.u32_in _ (by omega)
  have X3 := Lib.hid Y
  clear Y X2
  go_wp2_with fail
  refine (fc_num 1 17 .u8 rfl (by decide) X3.out (by decide)).mono ?_
  rintro e w4 ⟨x4, r4, e4, rfl, hx4, ⟨⟨y4, c4⟩, f4⟩, Y⟩
  have u4' : IntKind.u8.wrap (x4 : Int) = (x4 : Int) := IntWalk.u8_in _ (by omega)
  have X4 := Lib.hid Y
  clear Y X3
  obtain ⟨n9, z9, o9, r9, ans⟩ := HF.out _ _ _ _ _ _ X4.out rfl rfl rfl
  have N9 := Lib.hid n9
  have Z9 := Lib.hid z9
  have O9 := Lib.hid o9
  have R9 := Lib.hid r9
  have ANS := Lib.hid ans
  clear n9 z9 o9 r9 ans X4 HF
  go_wp2_with (first
    | (refine load_struct Tryz.underlying43 rfl Tryz.refMsgSize w.heap.size _ (.tmp 3) rfl rfl rfl N9.out Z9.out ?_)
    | (refine store_struct Tryz.refMsgSize (w.heap.size + 1) _ (.tmp 4) (.tmp 201) rfl rfl rfl rfl R9.out rfl Z9.out O9.out ?_)
    | fail)
  refine bodyPost_ret (results_cell_row rfl _ _ (w.heap.size + 1) 43 _ (0, 0) _ rfl (R9.out.setRow _) Tryz.underlying43 rfl (by rw [Z9.out]; exact Tryz.refMsgSize)) rfl ?_
  exact ⟨_, rfl, ANS.out⟩

set_option maxHeartbeats 1000000 in
theorem rfill_115 (H g : Nat) (bs r : List UInt8) (tag : Nat) (w : World) (h : RV w H g bs r 0) (_hb : bs.length ≤ 100000) (hl : r.length ≤ bs.length) (htag : tag < 65536) :
    Calls Tryz.prog 20 #[.pointer (some ⟨g, 0, none⟩), .agg (rzCells 115 tag)] w (fun e w' => ∃ cs', e = .returned (.agg cs') ∧ FillAns w H g 115 tag bs (tkL [.qid, .num 4] r) cs' w') := by
  obtain ⟨W, hW⟩ : ∃ W, W = (w.alloc (.cells (rzCells 115 tag) 43)).alloc (.cells #[.int .u8 0, .int .u16 0, .int .u32 0, .string ⟨#[]⟩, .int .u32 0, .int .u32 0, .int .u32 0, .string ⟨#[]⟩, .string ⟨#[]⟩, .string ⟨#[]⟩, .int .u16 0, .slice none 0 0, .slice none 0 0, .int .u8 0, .int .u32 0, .int .u64 0, .int .u32 0, .int .u8 0, .int .u32 0, .string ⟨#[]⟩, .int .u64 0, .int .u32 0, .string ⟨#[]⟩, .int .u16 0, .int .u32 0, .int .u8 0, .int .u32 0, .int .u64 0, .int .u32 0, .int .u32 0, .int .u32 0, .int .u64 0, .string ⟨#[]⟩, .string ⟨#[]⟩, .string ⟨#[]⟩, .string ⟨#[]⟩] 43) := ⟨_, rfl⟩
  have k0 : Only (fun _ => False) w W := by rw [hW]; exact ((Only.refl _ w).alloc _).alloc _
  have n0 : Has W w.heap.size 43 (rzCells 115 tag) := by rw [hW]; exact (Has.new w _ _).alloc _
  have r0 : Has W (w.heap.size + 1) 43 RZ := by
    rw [hW]
    have := Has.new (w.alloc (.cells (rzCells 115 tag) 43)) 43 #[.int .u8 0, .int .u16 0, .int .u32 0, .string ⟨#[]⟩, .int .u32 0, .int .u32 0, .int .u32 0, .string ⟨#[]⟩, .string ⟨#[]⟩, .string ⟨#[]⟩, .int .u16 0, .slice none 0 0, .slice none 0 0, .int .u8 0, .int .u32 0, .int .u64 0, .int .u32 0, .int .u8 0, .int .u32 0, .string ⟨#[]⟩, .int .u64 0, .int .u32 0, .string ⟨#[]⟩, .int .u16 0, .int .u32 0, .int .u8 0, .int .u32 0, .int .u64 0, .int .u32 0, .int .u32 0, .int .u32 0, .int .u64 0, .string ⟨#[]⟩, .string ⟨#[]⟩, .string ⟨#[]⟩, .string ⟨#[]⟩]
    show Has _ _ _ #[.int .u8 0, .int .u16 0, .int .u32 0, .string ⟨#[]⟩, .int .u32 0, .int .u32 0, .int .u32 0, .string ⟨#[]⟩, .string ⟨#[]⟩, .string ⟨#[]⟩, .int .u16 0, .slice none 0 0, .slice none 0 0, .int .u8 0, .int .u32 0, .int .u64 0, .int .u32 0, .int .u8 0, .int .u32 0, .string ⟨#[]⟩, .int .u64 0, .int .u32 0, .string ⟨#[]⟩, .int .u16 0, .int .u32 0, .int .u8 0, .int .u32 0, .int .u64 0, .int .u32 0, .int .u32 0, .int .u32 0, .int .u64 0, .string ⟨#[]⟩, .string ⟨#[]⟩, .string ⟨#[]⟩, .string ⟨#[]⟩]
    simpa using this
  have X0 := Lib.hid (FC.start (ks := [.qid, .num 4]) h hl (by decide) htag k0 n0)
  have d0 : W.cell? ⟨w.heap.size, 0, none⟩ = some (.int .u8 115) := n0.cell 0
  have HF := Lib.hid (fun (wr : World) (rr : List UInt8) (er : Int) (cs : Array Value) (m : Nat → F) (done : List F) (c : FC W H g w.heap.size bs (tkL [.qid, .num 4] r) done [] rr er cs m wr) hd h0 h1 => c.fin (t := 115) (tag := tag) k0 r0 hd h0 h1)
  have HW := Lib.hid hW.symm
  clear h n0 r0 k0 hW
  go_enter Tryz.func20, Tryz.ntmps20
  go_upto_region 1 with fail
  refine (show Code.wp _ _ _ _ ((w.alloc (.cells (rzCells 115 tag) 43)).alloc (.cells #[.int .u8 0, .int .u16 0, .int .u32 0, .string ⟨#[]⟩, .int .u32 0, .int .u32 0, .int .u32 0, .string ⟨#[]⟩, .string ⟨#[]⟩, .string ⟨#[]⟩, .int .u16 0, .slice none 0 0, .slice none 0 0, .int .u8 0, .int .u32 0, .int .u64 0, .int .u32 0, .int .u8 0, .int .u32 0, .string ⟨#[]⟩, .int .u64 0, .int .u32 0, .string ⟨#[]⟩, .int .u16 0, .int .u32 0, .int .u8 0, .int .u32 0, .int .u64 0, .int .u32 0, .int .u32 0, .int .u32 0, .int .u64 0, .string ⟨#[]⟩, .string ⟨#[]⟩, .string ⟨#[]⟩, .string ⟨#[]⟩] 43)) from ?_)
  rw [HW.out]
  clear HW
  go_wp2_with fail
  refine (fc_qid 13 X0.out (by decide)).mono ?_
  rintro e w1 ⟨x1, r1, e1, rfl, hh, Y⟩
  have X1 := Lib.hid Y
  have hz : (rzCells 0 0).size = 36 := rfl
  have zc := X0.out.mg.size
  have f10 := hh.frozen 13
  obtain ⟨y10, g10⟩ : ∃ y, w1.cell? ⟨w.heap.size, 13, none⟩ = some y := ⟨_, (hh.cell 13).trans (Array.getElem?_eq_getElem (by omega))⟩
  have f11 := hh.frozen 14
  obtain ⟨y11, g11⟩ : ∃ y, w1.cell? ⟨w.heap.size, 14, none⟩ = some y := ⟨_, (hh.cell 14).trans (Array.getElem?_eq_getElem (by omega))⟩
  have f12 := hh.frozen 15
  obtain ⟨y12, g12⟩ : ∃ y, w1.cell? ⟨w.heap.size, 15, none⟩ = some y := ⟨_, (hh.cell 15).trans (Array.getElem?_eq_getElem (by omega))⟩
  clear Y X0 hh hz zc
  go_wp2_with fail
  refine (fc_num 4 16 .u32 rfl (by decide) X1.out (by decide)).mono ?_
  rintro e w2 ⟨x2, r2, e2, rfl, hx2, ⟨⟨y2, c2⟩, f2⟩, Y⟩
  have u2' : IntKind.u32.wrap (x2 : Int) = (x2 : Int) := IntWalk.u32_in _ (by omega)
  have X2 := Lib.hid Y
  clear Y X1
  obtain ⟨n9, z9, o9, r9, ans⟩ := HF.out _ _ _ _ _ _ X2.out rfl rfl rfl
  have N9 := Lib.hid n9
  have Z9 := Lib.hid z9
  have O9 := Lib.hid o9
  have R9 := Lib.hid r9
  have ANS := Lib.hid ans
  clear n9 z9 o9 r9 ans X2 HF
  go_wp2_with (first
    | (refine load_struct Tryz.underlying43 rfl Tryz.refMsgSize w.heap.size _ (.tmp 3) rfl rfl rfl N9.out Z9.out ?_)
    | (refine store_struct Tryz.refMsgSize (w.heap.size + 1) _ (.tmp 4) (.tmp 201) rfl rfl rfl rfl R9.out rfl Z9.out O9.out ?_)
    | fail)
  refine bodyPost_ret (results_cell_row rfl _ _ (w.heap.size + 1) 43 _ (0, 0) _ rfl (R9.out.setRow _) Tryz.underlying43 rfl (by rw [Z9.out]; exact Tryz.refMsgSize)) rfl ?_
  exact ⟨_, rfl, ANS.out⟩

set_option maxHeartbeats 1000000 in
theorem rfill_116 (H g : Nat) (bs r : List UInt8) (tag : Nat) (w : World) (h : RV w H g bs r 0) (_hb : bs.length ≤ 100000) (hl : r.length ≤ bs.length) (htag : tag < 65536) :
    Calls Tryz.prog 20 #[.pointer (some ⟨g, 0, none⟩), .agg (rzCells 116 tag)] w (fun e w' => ∃ cs', e = .returned (.agg cs') ∧ FillAns w H g 116 tag bs (tkL [.num 4, .num 8, .num 4] r) cs' w') := by
  obtain ⟨W, hW⟩ : ∃ W, W = (w.alloc (.cells (rzCells 116 tag) 43)).alloc (.cells #[.int .u8 0, .int .u16 0, .int .u32 0, .string ⟨#[]⟩, .int .u32 0, .int .u32 0, .int .u32 0, .string ⟨#[]⟩, .string ⟨#[]⟩, .string ⟨#[]⟩, .int .u16 0, .slice none 0 0, .slice none 0 0, .int .u8 0, .int .u32 0, .int .u64 0, .int .u32 0, .int .u8 0, .int .u32 0, .string ⟨#[]⟩, .int .u64 0, .int .u32 0, .string ⟨#[]⟩, .int .u16 0, .int .u32 0, .int .u8 0, .int .u32 0, .int .u64 0, .int .u32 0, .int .u32 0, .int .u32 0, .int .u64 0, .string ⟨#[]⟩, .string ⟨#[]⟩, .string ⟨#[]⟩, .string ⟨#[]⟩] 43) := ⟨_, rfl⟩
  have k0 : Only (fun _ => False) w W := by rw [hW]; exact ((Only.refl _ w).alloc _).alloc _
  have n0 : Has W w.heap.size 43 (rzCells 116 tag) := by rw [hW]; exact (Has.new w _ _).alloc _
  have r0 : Has W (w.heap.size + 1) 43 RZ := by
    rw [hW]
    have := Has.new (w.alloc (.cells (rzCells 116 tag) 43)) 43 #[.int .u8 0, .int .u16 0, .int .u32 0, .string ⟨#[]⟩, .int .u32 0, .int .u32 0, .int .u32 0, .string ⟨#[]⟩, .string ⟨#[]⟩, .string ⟨#[]⟩, .int .u16 0, .slice none 0 0, .slice none 0 0, .int .u8 0, .int .u32 0, .int .u64 0, .int .u32 0, .int .u8 0, .int .u32 0, .string ⟨#[]⟩, .int .u64 0, .int .u32 0, .string ⟨#[]⟩, .int .u16 0, .int .u32 0, .int .u8 0, .int .u32 0, .int .u64 0, .int .u32 0, .int .u32 0, .int .u32 0, .int .u64 0, .string ⟨#[]⟩, .string ⟨#[]⟩, .string ⟨#[]⟩, .string ⟨#[]⟩]
    show Has _ _ _ #[.int .u8 0, .int .u16 0, .int .u32 0, .string ⟨#[]⟩, .int .u32 0, .int .u32 0, .int .u32 0, .string ⟨#[]⟩, .string ⟨#[]⟩, .string ⟨#[]⟩, .int .u16 0, .slice none 0 0, .slice none 0 0, .int .u8 0, .int .u32 0, .int .u64 0, .int .u32 0, .int .u8 0, .int .u32 0, .string ⟨#[]⟩, .int .u64 0, .int .u32 0, .string ⟨#[]⟩, .int .u16 0, .int .u32 0, .int .u8 0, .int .u32 0, .int .u64 0, .int .u32 0, .int .u32 0, .int .u32 0, .int .u64 0, .string ⟨#[]⟩, .string ⟨#[]⟩, .string ⟨#[]⟩, .string ⟨#[]⟩]
    simpa using this
  have X0 := Lib.hid (FC.start (ks := [.num 4, .num 8, .num 4]) h hl (by decide) htag k0 n0)
  have d0 : W.cell? ⟨w.heap.size, 0, none⟩ = some (.int .u8 116) := n0.cell 0
  have HF := Lib.hid (fun (wr : World) (rr : List UInt8) (er : Int) (cs : Array Value) (m : Nat → F) (done : List F) (c : FC W H g w.heap.size bs (tkL [.num 4, .num 8, .num 4] r) done [] rr er cs m wr) hd h0 h1 => c.fin (t := 116) (tag := tag) k0 r0 hd h0 h1)
  have HW := Lib.hid hW.symm
  clear h n0 r0 k0 hW
  go_enter Tryz.func20, Tryz.ntmps20
  go_upto_region 1 with fail
  refine (show Code.wp _ _ _ _ ((w.alloc (.cells (rzCells 116 tag) 43)).alloc (.cells #[.int .u8 0, .int .u16 0, .int .u32 0, .string ⟨#[]⟩, .int .u32 0, .int .u32 0, .int .u32 0, .string ⟨#[]⟩, .string ⟨#[]⟩, .string ⟨#[]⟩, .int .u16 0, .slice none 0 0, .slice none 0 0, .int .u8 0, .int .u32 0, .int .u64 0, .int .u32 0, .int .u8 0, .int .u32 0, .string ⟨#[]⟩, .int .u64 0, .int .u32 0, .string ⟨#[]⟩, .int .u16 0, .int .u32 0, .int .u8 0, .int .u32 0, .int .u64 0, .int .u32 0, .int .u32 0, .int .u32 0, .int .u64 0, .string ⟨#[]⟩, .string ⟨#[]⟩, .string ⟨#[]⟩, .string ⟨#[]⟩] 43)) from ?_)
  rw [HW.out]
  clear HW
  go_wp2_with fail
  refine (fc_num 4 4 .u32 rfl (by decide) X0.out (by decide)).mono ?_
  rintro e w1 ⟨x1, r1, e1, rfl, hx1, ⟨⟨y1, c1⟩, f1⟩, Y⟩
  have u1' : IntKind.u32.wrap (x1 : Int) = (x1 : Int) := IntWalk.u32_in _ (by omega)
  have X1 := Lib.hid Y
  clear Y X0
  go_wp2_with fail
  refine (fc_num 8 20 .u64 rfl (by decide) X1.out (by decide)).mono ?_
  rintro e w2 ⟨x2, r2, e2, rfl, hx2, ⟨⟨y2, c2⟩, f2⟩, Y⟩
  have X2 := Lib.hid Y
  clear Y X1
  go_wp2_with fail
  refine (fc_num 4 21 .u32 rfl (by decide) X2.out (by decide)).mono ?_
  rintro e w3 ⟨x3, r3, e3, rfl, hx3, ⟨⟨y3, c3⟩, f3⟩, Y⟩
  have u3' : IntKind.u32.wrap (x3 : Int) = (x3 : Int) := IntWalk.u32_in _ (by omega)
  have X3 := Lib.hid Y
  clear Y X2
  obtain ⟨n9, z9, o9, r9, ans⟩ := HF.out _ _ _ _ _ _ X3.out rfl rfl rfl
  have N9 := Lib.hid n9
  have Z9 := Lib.hid z9
  have O9 := Lib.hid o9
  have R9 := Lib.hid r9
  have ANS := Lib.hid ans
  clear n9 z9 o9 r9 ans X3 HF
  go_wp2_with (first
    | (refine load_struct Tryz.underlying43 rfl Tryz.refMsgSize w.heap.size _ (.tmp 3) rfl rfl rfl N9.out Z9.out ?_)
    | (refine store_struct Tryz.refMsgSize (w.heap.size + 1) _ (.tmp 4) (.tmp 201) rfl rfl rfl rfl R9.out rfl Z9.out O9.out ?_)
    | fail)
  refine bodyPost_ret (results_cell_row rfl _ _ (w.heap.size + 1) 43 _ (0, 0) _ rfl (R9.out.setRow _) Tryz.underlying43 rfl (by rw [Z9.out]; exact Tryz.refMsgSize)) rfl ?_
  exact ⟨_, rfl, ANS.out⟩

set_option maxHeartbeats 1000000 in
theorem rfill_117 (H g : Nat) (bs r : List UInt8) (tag : Nat) (w : World) (h : RV w H g bs r 0) (hb : bs.length ≤ 100000) (hl : r.length ≤ bs.length) (htag : tag < 65536) :
    Calls Tryz.prog 20 #[.pointer (some ⟨g, 0, none⟩), .agg (rzCells 117 tag)] w (fun e w' => ∃ cs', e = .returned (.agg cs') ∧ FillAns w H g 117 tag bs (tkL [.data] r) cs' w') := by
  obtain ⟨W, hW⟩ : ∃ W, W = (w.alloc (.cells (rzCells 117 tag) 43)).alloc (.cells #[.int .u8 0, .int .u16 0, .int .u32 0, .string ⟨#[]⟩, .int .u32 0, .int .u32 0, .int .u32 0, .string ⟨#[]⟩, .string ⟨#[]⟩, .string ⟨#[]⟩, .int .u16 0, .slice none 0 0, .slice none 0 0, .int .u8 0, .int .u32 0, .int .u64 0, .int .u32 0, .int .u8 0, .int .u32 0, .string ⟨#[]⟩, .int .u64 0, .int .u32 0, .string ⟨#[]⟩, .int .u16 0, .int .u32 0, .int .u8 0, .int .u32 0, .int .u64 0, .int .u32 0, .int .u32 0, .int .u32 0, .int .u64 0, .string ⟨#[]⟩, .string ⟨#[]⟩, .string ⟨#[]⟩, .string ⟨#[]⟩] 43) := ⟨_, rfl⟩
  have k0 : Only (fun _ => False) w W := by rw [hW]; exact ((Only.refl _ w).alloc _).alloc _
  have n0 : Has W w.heap.size 43 (rzCells 117 tag) := by rw [hW]; exact (Has.new w _ _).alloc _
  have r0 : Has W (w.heap.size + 1) 43 RZ := by
    rw [hW]
    have := Has.new (w.alloc (.cells (rzCells 117 tag) 43)) 43 #[.int .u8 0, .int .u16 0, .int .u32 0, .string ⟨#[]⟩, .int .u32 0, .int .u32 0, .int .u32 0, .string ⟨#[]⟩, .string ⟨#[]⟩, .string ⟨#[]⟩, .int .u16 0, .slice none 0 0, .slice none 0 0, .int .u8 0, .int .u32 0, .int .u64 0, .int .u32 0, .int .u8 0, .int .u32 0, .string ⟨#[]⟩, .int .u64 0, .int .u32 0, .string ⟨#[]⟩, .int .u16 0, .int .u32 0, .int .u8 0, .int .u32 0, .int .u64 0, .int .u32 0, .int .u32 0, .int .u32 0, .int .u64 0, .string ⟨#[]⟩, .string ⟨#[]⟩, .string ⟨#[]⟩, .string ⟨#[]⟩]
    show Has _ _ _ #[.int .u8 0, .int .u16 0, .int .u32 0, .string ⟨#[]⟩, .int .u32 0, .int .u32 0, .int .u32 0, .string ⟨#[]⟩, .string ⟨#[]⟩, .string ⟨#[]⟩, .int .u16 0, .slice none 0 0, .slice none 0 0, .int .u8 0, .int .u32 0, .int .u64 0, .int .u32 0, .int .u8 0, .int .u32 0, .string ⟨#[]⟩, .int .u64 0, .int .u32 0, .string ⟨#[]⟩, .int .u16 0, .int .u32 0, .int .u8 0, .int .u32 0, .int .u64 0, .int .u32 0, .int .u32 0, .int .u32 0, .int .u64 0, .string ⟨#[]⟩, .string ⟨#[]⟩, .string ⟨#[]⟩, .string ⟨#[]⟩]
    simpa using this
  have X0 := Lib.hid (FC.start (ks := [.data]) h hl (by decide) htag k0 n0)
  have d0 : W.cell? ⟨w.heap.size, 0, none⟩ = some (.int .u8 117) := n0.cell 0
  have HF := Lib.hid (fun (wr : World) (rr : List UInt8) (er : Int) (cs : Array Value) (m : Nat → F) (done : List F) (c : FC W H g w.heap.size bs (tkL [.data] r) done [] rr er cs m wr) hd h0 h1 => c.fin (t := 117) (tag := tag) k0 r0 hd h0 h1)
  have HW := Lib.hid hW.symm
  clear h n0 r0 k0 hW
  go_enter Tryz.func20, Tryz.ntmps20
  go_upto_region 1 with fail
  refine (show Code.wp _ _ _ _ ((w.alloc (.cells (rzCells 117 tag) 43)).alloc (.cells #[.int .u8 0, .int .u16 0, .int .u32 0, .string ⟨#[]⟩, .int .u32 0, .int .u32 0, .int .u32 0, .string ⟨#[]⟩, .string ⟨#[]⟩, .string ⟨#[]⟩, .int .u16 0, .slice none 0 0, .slice none 0 0, .int .u8 0, .int .u32 0, .int .u64 0, .int .u32 0, .int .u8 0, .int .u32 0, .string ⟨#[]⟩, .int .u64 0, .int .u32 0, .string ⟨#[]⟩, .int .u16 0, .int .u32 0, .int .u8 0, .int .u32 0, .int .u64 0, .int .u32 0, .int .u32 0, .int .u32 0, .int .u64 0, .string ⟨#[]⟩, .string ⟨#[]⟩, .string ⟨#[]⟩, .string ⟨#[]⟩] 43)) from ?_)
  rw [HW.out]
  clear HW
  go_wp2_with fail
  refine (fc_data 22 X0.out (by decide) hb).mono ?_
  rintro e w1 ⟨x1, r1, e1, rfl, ⟨⟨y1, c1⟩, f1⟩, Y⟩
  have X1 := Lib.hid Y
  clear Y X0
  obtain ⟨n9, z9, o9, r9, ans⟩ := HF.out _ _ _ _ _ _ X1.out rfl rfl rfl
  have N9 := Lib.hid n9
  have Z9 := Lib.hid z9
  have O9 := Lib.hid o9
  have R9 := Lib.hid r9
  have ANS := Lib.hid ans
  clear n9 z9 o9 r9 ans X1 HF
  go_wp2_with (first
    | (refine load_struct Tryz.underlying43 rfl Tryz.refMsgSize w.heap.size _ (.tmp 3) rfl rfl rfl N9.out Z9.out ?_)
    | (refine store_struct Tryz.refMsgSize (w.heap.size + 1) _ (.tmp 4) (.tmp 201) rfl rfl rfl rfl R9.out rfl Z9.out O9.out ?_)
    | fail)
  refine bodyPost_ret (results_cell_row rfl _ _ (w.heap.size + 1) 43 _ (0, 0) _ rfl (R9.out.setRow _) Tryz.underlying43 rfl (by rw [Z9.out]; exact Tryz.refMsgSize)) rfl ?_
  exact ⟨_, rfl, ANS.out⟩

set_option maxHeartbeats 1000000 in
theorem rfill_118 (H g : Nat) (bs r : List UInt8) (tag : Nat) (w : World) (h : RV w H g bs r 0) (hb : bs.length ≤ 100000) (hl : r.length ≤ bs.length) (htag : tag < 65536) :
    Calls Tryz.prog 20 #[.pointer (some ⟨g, 0, none⟩), .agg (rzCells 118 tag)] w (fun e w' => ∃ cs', e = .returned (.agg cs') ∧ FillAns w H g 118 tag bs (tkL [.num 4, .num 8, .data] r) cs' w') := by
  obtain ⟨W, hW⟩ : ∃ W, W = (w.alloc (.cells (rzCells 118 tag) 43)).alloc (.cells #[.int .u8 0, .int .u16 0, .int .u32 0, .string ⟨#[]⟩, .int .u32 0, .int .u32 0, .int .u32 0, .string ⟨#[]⟩, .string ⟨#[]⟩, .string ⟨#[]⟩, .int .u16 0, .slice none 0 0, .slice none 0 0, .int .u8 0, .int .u32 0, .int .u64 0, .int .u32 0, .int .u8 0, .int .u32 0, .string ⟨#[]⟩, .int .u64 0, .int .u32 0, .string ⟨#[]⟩, .int .u16 0, .int .u32 0, .int .u8 0, .int .u32 0, .int .u64 0, .int .u32 0, .int .u32 0, .int .u32 0, .int .u64 0, .string ⟨#[]⟩, .string ⟨#[]⟩, .string ⟨#[]⟩, .string ⟨#[]⟩] 43) := ⟨_, rfl⟩
  have k0 : Only (fun _ => False) w W := by rw [hW]; exact ((Only.refl _ w).alloc _).alloc _
  have n0 : Has W w.heap.size 43 (rzCells 118 tag) := by rw [hW]; exact (Has.new w _ _).alloc _
  have r0 : Has W (w.heap.size + 1) 43 RZ := by
    rw [hW]
    have := Has.new (w.alloc (.cells (rzCells 118 tag) 43)) 43 #[.int .u8 0, .int .u16 0, .int .u32 0, .string ⟨#[]⟩, .int .u32 0, .int .u32 0, .int .u32 0, .string ⟨#[]⟩, .string ⟨#[]⟩, .string ⟨#[]⟩, .int .u16 0, .slice none 0 0, .slice none 0 0, .int .u8 0, .int .u32 0, .int .u64 0, .int .u32 0, .int .u8 0, .int .u32 0, .string ⟨#[]⟩, .int .u64 0, .int .u32 0, .string ⟨#[]⟩, .int .u16 0, .int .u32 0, .int .u8 0, .int .u32 0, .int .u64 0, .int .u32 0, .int .u32 0, .int .u32 0, .int .u64 0, .string ⟨#[]⟩, .string ⟨#[]⟩, .string ⟨#[]⟩, .string ⟨#[]⟩]
    show Has _ _ _ #[.int .u8 0, .int .u16 0, .int .u32 0, .string ⟨#[]⟩, .int .u32 0, .int .u32 0, .int .u32 0, .string ⟨#[]⟩, .string ⟨#[]⟩, .string ⟨#[]⟩, .int .u16 0, .slice none 0 0, .slice none 0 0, .int .u8 0, .int .u32 0, .int .u64 0, .int .u32 0, .int .u8 0, .int .u32 0, .string ⟨#[]⟩, .int .u64 0, .int .u32 0, .string ⟨#[]⟩, .int .u16 0, .int .u32 0, .int .u8 0, .int .u32 0, .int .u64 0, .int .u32 0, .int .u32 0, .int .u32 0, .int .u64 0, .string ⟨#[]⟩, .string ⟨#[]⟩, .string ⟨#[]⟩, .string ⟨#[]⟩]
    simpa using this
  have X0 := Lib.hid (FC.start (ks := [.num 4, .num 8, .data]) h hl (by decide) htag k0 n0)
  have d0 : W.cell? ⟨w.heap.size, 0, none⟩ = some (.int .u8 118) := n0.cell 0
  have HF := Lib.hid (fun (wr : World) (rr : List UInt8) (er : Int) (cs : Array Value) (m : Nat → F) (done : List F) (c : FC W H g w.heap.size bs (tkL [.num 4, .num 8, .data] r) done [] rr er cs m wr) hd h0 h1 => c.fin (t := 118) (tag := tag) k0 r0 hd h0 h1)
  have HW := Lib.hid hW.symm
  clear h n0 r0 k0 hW
  go_enter Tryz.func20, Tryz.ntmps20
  go_upto_region 1 with fail
  refine (show Code.wp _ _ _ _ ((w.alloc (.cells (rzCells 118 tag) 43)).alloc (.cells #[.int .u8 0, .int .u16 0, .int .u32 0, .string ⟨#[]⟩, .int .u32 0, .int .u32 0, .int .u32 0, .string ⟨#[]⟩, .string ⟨#[]⟩, .string ⟨#[]⟩, .int .u16 0, .slice none 0 0, .slice none 0 0, .int .u8 0, .int .u32 0, .int .u64 0, .int .u32 0, .int .u8 0, .int .u32 0, .string ⟨#[]⟩, .int .u64 0, .int .u32 0, .string ⟨#[]⟩, .int .u16 0, .int .u32 0, .int .u8 0, .int .u32 0, .int .u64 0, .int .u32 0, .int .u32 0, .int .u32 0, .int .u64 0, .string ⟨#[]⟩, .string ⟨#[]⟩, .string ⟨#[]⟩, .string ⟨#[]⟩] 43)) from ?_)
  rw [HW.out]
  clear HW
  go_wp2_with fail
  refine (fc_num 4 4 .u32 rfl (by decide) X0.out (by decide)).mono ?_
  rintro e w1 ⟨x1, r1, e1, rfl, hx1, ⟨⟨y1, c1⟩, f1⟩, Y⟩
  have u1' : IntKind.u32.wrap (x1 : Int) = (x1 : Int) := IntWalk.u32_in _ (by omega)
  have X1 := Lib.hid Y
  clear Y X0
  go_wp2_with fail
  refine (fc_num 8 20 .u64 rfl (by decide) X1.out (by decide)).mono ?_
  rintro e w2 ⟨x2, r2, e2, rfl, hx2, ⟨⟨y2, c2⟩, f2⟩, Y⟩
  have X2 := Lib.hid Y
  clear Y X1
  go_wp2_with fail
  refine (fc_data 22 X2.out (by decide) hb).mono ?_
  rintro e w3 ⟨x3, r3, e3, rfl, ⟨⟨y3, c3⟩, f3⟩, Y⟩
  have X3 := Lib.hid Y
  clear Y X2
  obtain ⟨n9, z9, o9, r9, ans⟩ := HF.out _ _ _ _ _ _ X3.out rfl rfl rfl
  have N9 := Lib.hid n9
  have Z9 := Lib.hid z9
  have O9 := Lib.hid o9
  have R9 := Lib.hid r9
  have ANS := Lib.hid ans
  clear n9 z9 o9 r9 ans X3 HF
  go_wp2_with (first
    | (refine load_struct Tryz.underlying43 rfl Tryz.refMsgSize w.heap.size _ (.tmp 3) rfl rfl rfl N9.out Z9.out ?_)
    | (refine store_struct Tryz.refMsgSize (w.heap.size + 1) _ (.tmp 4) (.tmp 201) rfl rfl rfl rfl R9.out rfl Z9.out O9.out ?_)
    | fail)
  refine bodyPost_ret (results_cell_row rfl _ _ (w.heap.size + 1) 43 _ (0, 0) _ rfl (R9.out.setRow _) Tryz.underlying43 rfl (by rw [Z9.out]; exact Tryz.refMsgSize)) rfl ?_
  exact ⟨_, rfl, ANS.out⟩

set_option maxHeartbeats 1000000 in
theorem rfill_119 (H g : Nat) (bs r : List UInt8) (tag : Nat) (w : World) (h : RV w H g bs r 0) (_hb : bs.length ≤ 100000) (hl : r.length ≤ bs.length) (htag : tag < 65536) :
    Calls Tryz.prog 20 #[.pointer (some ⟨g, 0, none⟩), .agg (rzCells 119 tag)] w (fun e w' => ∃ cs', e = .returned (.agg cs') ∧ FillAns w H g 119 tag bs (tkL [.num 4] r) cs' w') := by
  obtain ⟨W, hW⟩ : ∃ W, W = (w.alloc (.cells (rzCells 119 tag) 43)).alloc (.cells #[.int .u8 0, .int .u16 0, .int .u32 0, .string ⟨#[]⟩, .int .u32 0, .int .u32 0, .int .u32 0, .string ⟨#[]⟩, .string ⟨#[]⟩, .string ⟨#[]⟩, .int .u16 0, .slice none 0 0, .slice none 0 0, .int .u8 0, .int .u32 0, .int .u64 0, .int .u32 0, .int .u8 0, .int .u32 0, .string ⟨#[]⟩, .int .u64 0, .int .u32 0, .string ⟨#[]⟩, .int .u16 0, .int .u32 0, .int .u8 0, .int .u32 0, .int .u64 0, .int .u32 0, .int .u32 0, .int .u32 0, .int .u64 0, .string ⟨#[]⟩, .string ⟨#[]⟩, .string ⟨#[]⟩, .string ⟨#[]⟩] 43) := ⟨_, rfl⟩
  have k0 : Only (fun _ => False) w W := by rw [hW]; exact ((Only.refl _ w).alloc _).alloc _
  have n0 : Has W w.heap.size 43 (rzCells 119 tag) := by rw [hW]; exact (Has.new w _ _).alloc _
  have r0 : Has W (w.heap.size + 1) 43 RZ := by
    rw [hW]
    have := Has.new (w.alloc (.cells (rzCells 119 tag) 43)) 43 #[.int .u8 0, .int .u16 0, .int .u32 0, .string ⟨#[]⟩, .int .u32 0, .int .u32 0, .int .u32 0, .string ⟨#[]⟩, .string ⟨#[]⟩, .string ⟨#[]⟩, .int .u16 0, .slice none 0 0, .slice none 0 0, .int .u8 0, .int .u32 0, .int .u64 0, .int .u32 0, .int .u8 0, .int .u32 0, .string ⟨#[]⟩, .int .u64 0, .int .u32 0, .string ⟨#[]⟩, .int .u16 0, .int .u32 0, .int .u8 0, .int .u32 0, .int .u64 0, .int .u32 0, .int .u32 0, .int .u32 0, .int .u64 0, .string ⟨#[]⟩, .string ⟨#[]⟩, .string ⟨#[]⟩, .string ⟨#[]⟩]
    show Has _ _ _ #[.int .u8 0, .int .u16 0, .int .u32 0, .string ⟨#[]⟩, .int .u32 0, .int .u32 0, .int .u32 0, .string ⟨#[]⟩, .string ⟨#[]⟩, .string ⟨#[]⟩, .int .u16 0, .slice none 0 0, .slice none 0 0, .int .u8 0, .int .u32 0, .int .u64 0, .int .u32 0, .int .u8 0, .int .u32 0, .string ⟨#[]⟩, .int .u64 0, .int .u32 0, .string ⟨#[]⟩, .int .u16 0, .int .u32 0, .int .u8 0, .int .u32 0, .int .u64 0, .int .u32 0, .int .u32 0, .int .u32 0, .int .u64 0, .string ⟨#[]⟩, .string ⟨#[]⟩, .string ⟨#[]⟩, .string ⟨#[]⟩]
    simpa using this
  have X0 := Lib.hid (FC.start (ks := [.num 4]) h hl (by decide) htag k0 n0)
  have d0 : W.cell? ⟨w.heap.size, 0, none⟩ = some (.int .u8 119) := n0.cell 0
  have HF := Lib.hid (fun (wr : World) (rr : List UInt8) (er : Int) (cs : Array Value) (m : Nat → F) (done : List F) (c : FC W H g w.heap.size bs (tkL [.num 4] r) done [] rr er cs m wr) hd h0 h1 => c.fin (t := 119) (tag := tag) k0 r0 hd h0 h1)
  have HW := Lib.hid hW.symm
  clear h n0 r0 k0 hW
  go_enter Tryz.func20, Tryz.ntmps20
  go_upto_region 1 with fail
  refine (show Code.wp _ _ _ _ ((w.alloc (.cells (rzCells 119 tag) 43)).alloc (.cells #[.int .u8 0, .int .u16 0, .int .u32 0, .string ⟨#[]⟩, .int .u32 0, .int .u32 0, .int .u32 0, .string ⟨#[]⟩, .string ⟨#[]⟩, .string ⟨#[]⟩, .int .u16 0, .slice none 0 0, .slice none 0 0, .int .u8 0, .int .u32 0, .int .u64 0, .int .u32 0, .int .u8 0, .int .u32 0, .string ⟨#[]⟩, .int .u64 0, .int .u32 0, .string ⟨#[]⟩, .int .u16 0, .int .u32 0, .int .u8 0, .int .u32 0, .int .u64 0, .int .u32 0, .int .u32 0, .int .u32 0, .int .u64 0, .string ⟨#[]⟩, .string ⟨#[]⟩, .string ⟨#[]⟩, .string ⟨#[]⟩] 43)) from ?_)
  rw [HW.out]
  clear HW
  go_wp2_with fail
  refine (fc_num 4 21 .u32 rfl (by decide) X0.out (by decide)).mono ?_
  rintro e w1 ⟨x1, r1, e1, rfl, hx1, ⟨⟨y1, c1⟩, f1⟩, Y⟩
  have u1' : IntKind.u32.wrap (x1 : Int) = (x1 : Int) := IntWalk.u32_in _ (by omega)
  have X1 := Lib.hid Y
  clear Y X0
  obtain ⟨n9, z9, o9, r9, ans⟩ := HF.out _ _ _ _ _ _ X1.out rfl rfl rfl
  have N9 := Lib.hid n9
  have Z9 := Lib.hid z9
  have O9 := Lib.hid o9
  have R9 := Lib.hid r9
  have ANS := Lib.hid ans
  clear n9 z9 o9 r9 ans X1 HF
  go_wp2_with (first
    | (refine load_struct Tryz.underlying43 rfl Tryz.refMsgSize w.heap.size _ (.tmp 3) rfl rfl rfl N9.out Z9.out ?_)
    | (refine store_struct Tryz.refMsgSize (w.heap.size + 1) _ (.tmp 4) (.tmp 201) rfl rfl rfl rfl R9.out rfl Z9.out O9.out ?_)
    | fail)
  refine bodyPost_ret (results_cell_row rfl _ _ (w.heap.size + 1) 43 _ (0, 0) _ rfl (R9.out.setRow _) Tryz.underlying43 rfl (by rw [Z9.out]; exact Tryz.refMsgSize)) rfl ?_
  exact ⟨_, rfl, ANS.out⟩

set_option maxHeartbeats 1000000 in
theorem rfill_120 (H g : Nat) (bs r : List UInt8) (tag : Nat) (w : World) (h : RV w H g bs r 0) (_hb : bs.length ≤ 100000) (hl : r.length ≤ bs.length) (htag : tag < 65536) :
    Calls Tryz.prog 20 #[.pointer (some ⟨g, 0, none⟩), .agg (rzCells 120 tag)] w (fun e w' => ∃ cs', e = .returned (.agg cs') ∧ FillAns w H g 120 tag bs (tkL [.num 4] r) cs' w') := by
  obtain ⟨W, hW⟩ : ∃ W, W = (w.alloc (.cells (rzCells 120 tag) 43)).alloc (.cells #[.int .u8 0, .int .u16 0, .int .u32 0, .string ⟨#[]⟩, .int .u32 0, .int .u32 0, .int .u32 0, .string ⟨#[]⟩, .string ⟨#[]⟩, .string ⟨#[]⟩, .int .u16 0, .slice none 0 0, .slice none 0 0, .int .u8 0, .int .u32 0, .int .u64 0, .int .u32 0, .int .u8 0, .int .u32 0, .string ⟨#[]⟩, .int .u64 0, .int .u32 0, .string ⟨#[]⟩, .int .u16 0, .int .u32 0, .int .u8 0, .int .u32 0, .int .u64 0, .int .u32 0, .int .u32 0, .int .u32 0, .int .u64 0, .string ⟨#[]⟩, .string ⟨#[]⟩, .string ⟨#[]⟩, .string ⟨#[]⟩] 43) := ⟨_, rfl⟩
  have k0 : Only (fun _ => False) w W := by rw [hW]; exact ((Only.refl _ w).alloc _).alloc _
  have n0 : Has W w.heap.size 43 (rzCells 120 tag) := by rw [hW]; exact (Has.new w _ _).alloc _
  have r0 : Has W (w.heap.size + 1) 43 RZ := by
    rw [hW]
    have := Has.new (w.alloc (.cells (rzCells 120 tag) 43)) 43 #[.int .u8 0, .int .u16 0, .int .u32 0, .string ⟨#[]⟩, .int .u32 0, .int .u32 0, .int .u32 0, .string ⟨#[]⟩, .string ⟨#[]⟩, .string ⟨#[]⟩, .int .u16 0, .slice none 0 0, .slice none 0 0, .int .u8 0, .int .u32 0, .int .u64 0, .int .u32 0, .int .u8 0, .int .u32 0, .string ⟨#[]⟩, .int .u64 0, .int .u32 0, .string ⟨#[]⟩, .int .u16 0, .int .u32 0, .int .u8 0, .int .u32 0, .int .u64 0, .int .u32 0, .int .u32 0, .int .u32 0, .int .u64 0, .string ⟨#[]⟩, .string ⟨#[]⟩, .string ⟨#[]⟩, .string ⟨#[]⟩]
    show Has _ _ _ #[.int .u8 0, .int .u16 0, .int .u32 0, .string ⟨#[]⟩, .int .u32 0, .int .u32 0, .int .u32 0, .string ⟨#[]⟩, .string ⟨#[]⟩, .string ⟨#[]⟩, .int .u16 0, .slice none 0 0, .slice none 0 0, .int .u8 0, .int .u32 0, .int .u64 0, .int .u32 0, .int .u8 0, .int .u32 0, .string ⟨#[]⟩, .int .u64 0, .int .u32 0, .string ⟨#[]⟩, .int .u16 0, .int .u32 0, .int .u8 0, .int .u32 0, .int .u64 0, .int .u32 0, .int .u32 0, .int .u32 0, .int .u64 0, .string ⟨#[]⟩, .string ⟨#[]⟩, .string ⟨#[]⟩, .string ⟨#[]⟩]
    simpa using this
  have X0 := Lib.hid (FC.start (ks := [.num 4]) h hl (by decide) htag k0 n0)
  have d0 : W.cell? ⟨w.heap.size, 0, none⟩ = some (.int .u8 120) := n0.cell 0
  have HF := Lib.hid (fun (wr : World) (rr : List UInt8) (er : Int) (cs : Array Value) (m : Nat → F) (done : List F) (c : FC W H g w.heap.size bs (tkL [.num 4] r) done [] rr er cs m wr) hd h0 h1 => c.fin (t := 120) (tag := tag) k0 r0 hd h0 h1)
  have HW := Lib.hid hW.symm
  clear h n0 r0 k0 hW
  go_enter Tryz.func20, Tryz.ntmps20
  go_upto_region 1 with fail
  refine (show Code.wp _ _ _ _ ((w.alloc (.cells (rzCells 120 tag) 43)).alloc (.cells #[.int .u8 0, .int .u16 0, .int .u32 0, .string ⟨#[]⟩, .int .u32 0, .int .u32 0, .int .u32 0, .string ⟨#[]⟩, .string ⟨#[]⟩, .string ⟨#[]⟩, .int .u16 0, .slice none 0 0, .slice none 0 0, .int .u8 0, .int .u32 0, .int .u64 0, .int .u32 0, .int .u8 0, .int .u32 0, .string ⟨#[]⟩, .int .u64 0, .int .u32 0, .string ⟨#[]⟩, .int .u16 0, .int .u32 0, .int .u8 0, .int .u32 0, .int .u64 0, .int .u32 0, .int .u32 0, .int .u32 0, .int .u64 0, .string ⟨#[]⟩, .string ⟨#[]⟩, .string ⟨#[]⟩, .string ⟨#[]⟩] 43)) from ?_)
  rw [HW.out]
  clear HW
  go_wp2_with fail
  refine (fc_num 4 4 .u32 rfl (by decide) X0.out (by decide)).mono ?_
  rintro e w1 ⟨x1, r1, e1, rfl, hx1, ⟨⟨y1, c1⟩, f1⟩, Y⟩
  have u1' : IntKind.u32.wrap (x1 : Int) = (x1 : Int) := IntWalk.u32_in _ (by omega)
  have X1 := Lib.hid Y
  clear Y X0
  obtain ⟨n9, z9, o9, r9, ans⟩ := HF.out _ _ _ _ _ _ X1.out rfl rfl rfl
  have N9 := Lib.hid n9
  have Z9 := Lib.hid z9
  have O9 := Lib.hid o9
  have R9 := Lib.hid r9
  have ANS := Lib.hid ans
  clear n9 z9 o9 r9 ans X1 HF
  go_wp2_with (first
    | (refine load_struct Tryz.underlying43 rfl Tryz.refMsgSize w.heap.size _ (.tmp 3) rfl rfl rfl N9.out Z9.out ?_)
    | (refine store_struct Tryz.refMsgSize (w.heap.size + 1) _ (.tmp 4) (.tmp 201) rfl rfl rfl rfl R9.out rfl Z9.out O9.out ?_)
    | fail)
  refine bodyPost_ret (results_cell_row rfl _ _ (w.heap.size + 1) 43 _ (0, 0) _ rfl (R9.out.setRow _) Tryz.underlying43 rfl (by rw [Z9.out]; exact Tryz.refMsgSize)) rfl ?_
  exact ⟨_, rfl, ANS.out⟩

set_option maxHeartbeats 1000000 in
theorem rfill_121 (H g : Nat) (bs r : List UInt8) (tag : Nat) (w : World) (h : RV w H g bs r 0) (_hb : bs.length ≤ 100000) (hl : r.length ≤ bs.length) (htag : tag < 65536) :
    Calls Tryz.prog 20 #[.pointer (some ⟨g, 0, none⟩), .agg (rzCells 121 tag)] w (fun e w' => ∃ cs', e = .returned (.agg cs') ∧ FillAns w H g 121 tag bs (tkL [] r) cs' w') := by
  obtain ⟨W, hW⟩ : ∃ W, W = (w.alloc (.cells (rzCells 121 tag) 43)).alloc (.cells #[.int .u8 0, .int .u16 0, .int .u32 0, .string ⟨#[]⟩, .int .u32 0, .int .u32 0, .int .u32 0, .string ⟨#[]⟩, .string ⟨#[]⟩, .string ⟨#[]⟩, .int .u16 0, .slice none 0 0, .slice none 0 0, .int .u8 0, .int .u32 0, .int .u64 0, .int .u32 0, .int .u8 0, .int .u32 0, .string ⟨#[]⟩, .int .u64 0, .int .u32 0, .string ⟨#[]⟩, .int .u16 0, .int .u32 0, .int .u8 0, .int .u32 0, .int .u64 0, .int .u32 0, .int .u32 0, .int .u32 0, .int .u64 0, .string ⟨#[]⟩, .string ⟨#[]⟩, .string ⟨#[]⟩, .string ⟨#[]⟩] 43) := ⟨_, rfl⟩
  have k0 : Only (fun _ => False) w W := by rw [hW]; exact ((Only.refl _ w).alloc _).alloc _
  have n0 : Has W w.heap.size 43 (rzCells 121 tag) := by rw [hW]; exact (Has.new w _ _).alloc _
  have r0 : Has W (w.heap.size + 1) 43 RZ := by
    rw [hW]
    have := Has.new (w.alloc (.cells (rzCells 121 tag) 43)) 43 #[.int .u8 0, .int .u16 0, .int .u32 0, .string ⟨#[]⟩, .int .u32 0, .int .u32 0, .int .u32 0, .string ⟨#[]⟩, .string ⟨#[]⟩, .string ⟨#[]⟩, .int .u16 0, .slice none 0 0, .slice none 0 0, .int .u8 0, .int .u32 0, .int .u64 0, .int .u32 0, .int .u8 0, .int .u32 0, .string ⟨#[]⟩, .int .u64 0, .int .u32 0, .string ⟨#[]⟩, .int .u16 0, .int .u32 0, .int .u8 0, .int .u32 0, .int .u64 0, .int .u32 0, .int .u32 0, .int .u32 0, .int .u64 0, .string ⟨#[]⟩, .string ⟨#[]⟩, .string ⟨#[]⟩, .string ⟨#[]⟩]
    show Has _ _ _ #[.int .u8 0, .int .u16 0, .int .u32 0, .string ⟨#[]⟩, .int .u32 0, .int .u32 0, .int .u32 0, .string ⟨#[]⟩, .string ⟨#[]⟩, .string ⟨#[]⟩, .int .u16 0, .slice none 0 0, .slice none 0 0, .int .u8 0, .int .u32 0, .int .u64 0, .int .u32 0, .int .u8 0, .int .u32 0, .string ⟨#[]⟩, .int .u64 0, .int .u32 0, .string ⟨#[]⟩, .int .u16 0, .int .u32 0, .int .u8 0, .int .u32 0, .int .u64 0, .int .u32 0, .int .u32 0, .int .u32 0, .int .u64 0, .string ⟨#[]⟩, .string ⟨#[]⟩, .string ⟨#[]⟩, .string ⟨#[]⟩]
    simpa using this
  have X0 := Lib.hid (FC.start (ks := []) h hl (by decide) htag k0 n0)
  have d0 : W.cell? ⟨w.heap.size, 0, none⟩ = some (.int .u8 121) := n0.cell 0
  have HF := Lib.hid (fun (wr : World) (rr : List UInt8) (er : Int) (cs : Array Value) (m : Nat → F) (done : List F) (c : FC W H g w.heap.size bs (tkL [] r) done [] rr er cs m wr) hd h0 h1 => c.fin (t := 121) (tag := tag) k0 r0 hd h0 h1)
  have HW := Lib.hid hW.symm
  clear h n0 r0 k0 hW
  go_enter Tryz.func20, Tryz.ntmps20
  go_upto_region 1 with fail
  refine (show Code.wp _ _ _ _ ((w.alloc (.cells (rzCells 121 tag) 43)).alloc (.cells #[.int .u8 0, .int .u16 0, .int .u32 0, .string ⟨#[]⟩, .int .u32 0, .int .u32 0, .int .u32 0, .string ⟨#[]⟩, .string ⟨#[]⟩, .string ⟨#[]⟩, .int .u16 0, .slice none 0 0, .slice none 0 0, .int .u8 0, .int .u32 0, .int .u64 0, .int .u32 0, .int .u8 0, .int .u32 0, .string ⟨#[]⟩, .int .u64 0, .int .u32 0, .string ⟨#[]⟩, .int .u16 0, .int .u32 0, .int .u8 0, .int .u32 0, .int .u64 0, .int .u32 0, .int .u32 0, .int .u32 0, .int .u64 0, .string ⟨#[]⟩, .string ⟨#[]⟩, .string ⟨#[]⟩, .string ⟨#[]⟩] 43)) from ?_)
  rw [HW.out]
  clear HW
  obtain ⟨n9, z9, o9, r9, ans⟩ := HF.out _ _ _ _ _ _ X0.out rfl rfl rfl
  have N9 := Lib.hid n9
  have Z9 := Lib.hid z9
  have O9 := Lib.hid o9
  have R9 := Lib.hid r9
  have ANS := Lib.hid ans
  clear n9 z9 o9 r9 ans X0 HF
  go_wp2_with (first
    | (refine load_struct Tryz.underlying43 rfl Tryz.refMsgSize w.heap.size _ (.tmp 3) rfl rfl rfl N9.out Z9.out ?_)
    | (refine store_struct Tryz.refMsgSize (w.heap.size + 1) _ (.tmp 4) (.tmp 201) rfl rfl rfl rfl R9.out rfl Z9.out O9.out ?_)
    | fail)
  refine bodyPost_ret (results_cell_row rfl _ _ (w.heap.size + 1) 43 _ (0, 0) _ rfl (R9.out.setRow _) Tryz.underlying43 rfl (by rw [Z9.out]; exact Tryz.refMsgSize)) rfl ?_
  exact ⟨_, rfl, ANS.out⟩

set_option maxHeartbeats 1000000 in
theorem rfill_122 (H g : Nat) (bs r : List UInt8) (tag : Nat) (w : World) (h : RV w H g bs r 0) (_hb : bs.length ≤ 100000) (hl : r.length ≤ bs.length) (htag : tag < 65536) :
    Calls Tryz.prog 20 #[.pointer (some ⟨g, 0, none⟩), .agg (rzCells 122 tag)] w (fun e w' => ∃ cs', e = .returned (.agg cs') ∧ FillAns w H g 122 tag bs (tkL [.num 4] r) cs' w') := by
  obtain ⟨W, hW⟩ : ∃ W, W = (w.alloc (.cells (rzCells 122 tag) 43)).alloc (.cells #[.int .u8 0, .int .u16 0, .int .u32 0, .string ⟨#[]⟩, .int .u32 0, .int .u32 0, .int .u32 0, .string ⟨#[]⟩, .string ⟨#[]⟩, .string ⟨#[]⟩, .int .u16 0, .slice none 0 0, .slice none 0 0, .int .u8 0, .int .u32 0, .int .u64 0, .int .u32 0, .int .u8 0, .int .u32 0, .string ⟨#[]⟩, .int .u64 0, .int .u32 0, .string ⟨#[]⟩, .int .u16 0, .int .u32 0, .int .u8 0, .int .u32 0, .int .u64 0, .int .u32 0, .int .u32 0, .int .u32 0, .int .u64 0, .string ⟨#[]⟩, .string ⟨#[]⟩, .string ⟨#[]⟩, .string ⟨#[]⟩] 43) := ⟨_, rfl⟩
  have k0 : Only (fun _ => False) w W := by rw [hW]; exact ((Only.refl _ w).alloc _).alloc _
  have n0 : Has W w.heap.size 43 (rzCells 122 tag) := by rw [hW]; exact (Has.new w _ _).alloc _
  have r0 : Has W (w.heap.size + 1) 43 RZ := by
    rw [hW]
    have := Has.new (w.alloc (.cells (rzCells 122 tag) 43)) 43 #[.int .u8 0, .int .u16 0, .int .u32 0, .string ⟨#[]⟩, .int .u32 0, .int .u32 0, .int .u32 0, .string ⟨#[]⟩, .string ⟨#[]⟩, .string ⟨#[]⟩, .int .u16 0, .slice none 0 0, .slice none 0 0, .int .u8 0, .int .u32 0, .int .u64 0, .int .u32 0, .int .u8 0, .int .u32 0, .string ⟨#[]⟩, .int .u64 0, .int .u32 0, .string ⟨#[]⟩, .int .u16 0, .int .u32 0, .int .u8 0, .int .u32 0, .int .u64 0, .int .u32 0, .int .u32 0, .int .u32 0, .int .u64 0, .string ⟨#[]⟩, .string ⟨#[]⟩, .string ⟨#[]⟩, .string ⟨#[]⟩]
    show Has _ _ _ #[.int .u8 0, .int .u16 0, .int .u32 0, .string ⟨#[]⟩, .int .u32 0, .int .u32 0, .int .u32 0, .string ⟨#[]⟩, .string ⟨#[]⟩, .string ⟨#[]⟩, .int .u16 0, .slice none 0 0, .slice none 0 0, .int .u8 0, .int .u32 0, .int .u64 0, .int .u32 0, .int .u8 0, .int .u32 0, .string ⟨#[]⟩, .int .u64 0, .int .u32 0, .string ⟨#[]⟩, .int .u16 0, .int .u32 0, .int .u8 0, .int .u32 0, .int .u64 0, .int .u32 0, .int .u32 0, .int .u32 0, .int .u64 0, .string ⟨#[]⟩, .string ⟨#[]⟩, .string ⟨#[]⟩, .string ⟨#[]⟩]
    simpa using this
  have X0 := Lib.hid (FC.start (ks := [.num 4]) h hl (by decide) htag k0 n0)
  have d0 : W.cell? ⟨w.heap.size, 0, none⟩ = some (.int .u8 122) := n0.cell 0
  have HF := Lib.hid (fun (wr : World) (rr : List UInt8) (er : Int) (cs : Array Value) (m : Nat → F) (done : List F) (c : FC W H g w.heap.size bs (tkL [.num 4] r) done [] rr er cs m wr) hd h0 h1 => c.fin (t := 122) (tag := tag) k0 r0 hd h0 h1)
  have HW := Lib.hid hW.symm
  clear h n0 r0 k0 hW
  go_enter Tryz.func20, Tryz.ntmps20
  go_upto_region 1 with fail
  refine (show Code.wp _ _ _ _ ((w.alloc (.cells (rzCells 122 tag) 43)).alloc (.cells #[.int .u8 0, .int .u16 0, .int .u32 0, .string ⟨#[]⟩, .int .u32 0, .int .u32 0, .int .u32 0, .string ⟨#[]⟩, .string ⟨#[]⟩, .string ⟨#[]⟩, .int .u16 0, .slice none 0 0, .slice none 0 0, .int .u8 0, .int .u32 0, .int .u64 0, .int .u32 0, .int .u8 0, .int .u32 0, .string ⟨#[]⟩, .int .u64 0, .int .u32 0, .string ⟨#[]⟩, .int .u16 0, .int .u32 0, .int .u8 0, .int .u32 0, .int .u64 0, .int .u32 0, .int .u32 0, .int .u32 0, .int .u64 0, .string ⟨#[]⟩, .string ⟨#[]⟩, .string ⟨#[]⟩, .string ⟨#[]⟩] 43)) from ?_)
  rw [HW.out]
  clear HW
  go_wp2_with fail
  refine (fc_num 4 4 .u32 rfl (by decide) X0.out (by decide)).mono ?_
  rintro e w1 ⟨x1, r1, e1, rfl, hx1, ⟨⟨y1, c1⟩, f1⟩, Y⟩
  have u1' : IntKind.u32.wrap (x1 : Int) = (x1 : Int) := IntWalk.u32_in _ (by omega)
  have X1 := Lib.hid Y
  clear Y X0
  obtain ⟨n9, z9, o9, r9, ans⟩ := HF.out _ _ _ _ _ _ X1.out rfl rfl rfl
  have N9 := Lib.hid n9
  have Z9 := Lib.hid z9
  have O9 := Lib.hid o9
  have R9 := Lib.hid r9
  have ANS := Lib.hid ans
  clear n9 z9 o9 r9 ans X1 HF
  go_wp2_with (first
    | (refine load_struct Tryz.underlying43 rfl Tryz.refMsgSize w.heap.size _ (.tmp 3) rfl rfl rfl N9.out Z9.out ?_)
    | (refine store_struct Tryz.refMsgSize (w.heap.size + 1) _ (.tmp 4) (.tmp 201) rfl rfl rfl rfl R9.out rfl Z9.out O9.out ?_)
    | fail)
  refine bodyPost_ret (results_cell_row rfl _ _ (w.heap.size + 1) 43 _ (0, 0) _ rfl (R9.out.setRow _) Tryz.underlying43 rfl (by rw [Z9.out]; exact Tryz.refMsgSize)) rfl ?_
  exact ⟨_, rfl, ANS.out⟩

set_option maxHeartbeats 1000000 in
theorem rfill_123 (H g : Nat) (bs r : List UInt8) (tag : Nat) (w : World) (h : RV w H g bs r 0) (_hb : bs.length ≤ 100000) (hl : r.length ≤ bs.length) (htag : tag < 65536) :
    Calls Tryz.prog 20 #[.pointer (some ⟨g, 0, none⟩), .agg (rzCells 123 tag)] w (fun e w' => ∃ cs', e = .returned (.agg cs') ∧ FillAns w H g 123 tag bs (tkL [] r) cs' w') := by
  obtain ⟨W, hW⟩ : ∃ W, W = (w.alloc (.cells (rzCells 123 tag) 43)).alloc (.cells #[.int .u8 0, .int .u16 0, .int .u32 0, .string ⟨#[]⟩, .int .u32 0, .int .u32 0, .int .u32 0, .string ⟨#[]⟩, .string ⟨#[]⟩, .string ⟨#[]⟩, .int .u16 0, .slice none 0 0, .slice none 0 0, .int .u8 0, .int .u32 0, .int .u64 0, .int .u32 0, .int .u8 0, .int .u32 0, .string ⟨#[]⟩, .int .u64 0, .int .u32 0, .string ⟨#[]⟩, .int .u16 0, .int .u32 0, .int .u8 0, .int .u32 0, .int .u64 0, .int .u32 0, .int .u32 0, .int .u32 0, .int .u64 0, .string ⟨#[]⟩, .string ⟨#[]⟩, .string ⟨#[]⟩, .string ⟨#[]⟩] 43) := ⟨_, rfl⟩
  have k0 : Only (fun _ => False) w W := by rw [hW]; exact ((Only.refl _ w).alloc _).alloc _
  have n0 : Has W w.heap.size 43 (rzCells 123 tag) := by rw [hW]; exact (Has.new w _ _).alloc _
  have r0 : Has W (w.heap.size + 1) 43 RZ := by
    rw [hW]
    have := Has.new (w.alloc (.cells (rzCells 123 tag) 43)) 43 #[.int .u8 0, .int .u16 0, .int .u32 0, .string ⟨#[]⟩, .int .u32 0, .int .u32 0, .int .u32 0, .string ⟨#[]⟩, .string ⟨#[]⟩, .string ⟨#[]⟩, .int .u16 0, .slice none 0 0, .slice none 0 0, .int .u8 0, .int .u32 0, .int .u64 0, .int .u32 0, .int .u8 0, .int .u32 0, .string ⟨#[]⟩, .int .u64 0, .int .u32 0, .string ⟨#[]⟩, .int .u16 0, .int .u32 0, .int .u8 0, .int .u32 0, .int .u64 0, .int .u32 0, .int .u32 0, .int .u32 0, .int .u64 0, .string ⟨#[]⟩, .string ⟨#[]⟩, .string ⟨#[]⟩, .string ⟨#[]⟩]
    show Has _ _ _ #[.int .u8 0, .int .u16 0, .int .u32 0, .string ⟨#[]⟩, .int .u32 0, .int .u32 0, .int .u32 0, .string ⟨#[]⟩, .string ⟨#[]⟩, .string ⟨#[]⟩, .int .u16 0, .slice none 0 0, .slice none 0 0, .int .u8 0, .int .u32 0, .int .u64 0, .int .u32 0, .int .u8 0, .int .u32 0, .string ⟨#[]⟩, .int .u64 0, .int .u32 0, .string ⟨#[]⟩, .int .u16 0, .int .u32 0, .int .u8 0, .int .u32 0, .int .u64 0, .int .u32 0, .int .u32 0, .int .u32 0, .int .u64 0, .string ⟨#[]⟩, .string ⟨#[]⟩, .string ⟨#[]⟩, .string ⟨#[]⟩]
    simpa using this
  have X0 := Lib.hid (FC.start (ks := []) h hl (by decide) htag k0 n0)
  have d0 : W.cell? ⟨w.heap.size, 0, none⟩ = some (.int .u8 123) := n0.cell 0
  have HF := Lib.hid (fun (wr : World) (rr : List UInt8) (er : Int) (cs : Array Value) (m : Nat → F) (done : List F) (c : FC W H g w.heap.size bs (tkL [] r) done [] rr er cs m wr) hd h0 h1 => c.fin (t := 123) (tag := tag) k0 r0 hd h0 h1)
  have HW := Lib.hid hW.symm
  clear h n0 r0 k0 hW
  go_enter Tryz.func20, Tryz.ntmps20
  go_upto_region 1 with fail
  refine (show Code.wp _ _ _ _ ((w.alloc (.cells (rzCells 123 tag) 43)).alloc (.cells #[.int .u8 0, .int .u16 0, .int .u32 0, .string ⟨#[]⟩, .int .u32 0, .int .u32 0, .int .u32 0, .string ⟨#[]⟩, .string ⟨#[]⟩, .string ⟨#[]⟩, .int .u16 0, .slice none 0 0, .slice none 0 0, .int .u8 0, .int .u32 0, .int .u64 0, .int .u32 0, .int .u8 0, .int .u32 0, .string ⟨#[]⟩, .int .u64 0, .int .u32 0, .string ⟨#[]⟩, .int .u16 0, .int .u32 0, .int .u8 0, .int .u32 0, .int .u64 0, .int .u32 0, .int .u32 0, .int .u32 0, .int .u64 0, .string ⟨#[]⟩, .string ⟨#[]⟩, .string ⟨#[]⟩, .string ⟨#[]⟩] 43)) from ?_)
  rw [HW.out]
  clear HW
  obtain ⟨n9, z9, o9, r9, ans⟩ := HF.out _ _ _ _ _ _ X0.out rfl rfl rfl
  have N9 := Lib.hid n9
  have Z9 := Lib.hid z9
  have O9 := Lib.hid o9
  have R9 := Lib.hid r9
  have ANS := Lib.hid ans
  clear n9 z9 o9 r9 ans X0 HF
  go_wp2_with (first
    | (refine load_struct Tryz.underlying43 rfl Tryz.refMsgSize w.heap.size _ (.tmp 3) rfl rfl rfl N9.out Z9.out ?_)
    | (refine store_struct Tryz.refMsgSize (w.heap.size + 1) _ (.tmp 4) (.tmp 201) rfl rfl rfl rfl R9.out rfl Z9.out O9.out ?_)
    | fail)
  refine bodyPost_ret (results_cell_row rfl _ _ (w.heap.size + 1) 43 _ (0, 0) _ rfl (R9.out.setRow _) Tryz.underlying43 rfl (by rw [Z9.out]; exact Tryz.refMsgSize)) rfl ?_
  exact ⟨_, rfl, ANS.out⟩

set_option maxHeartbeats 1000000 in
theorem rfill_124 (H g : Nat) (bs r : List UInt8) (tag : Nat) (w : World) (h : RV w H g bs r 0) (_hb : bs.length ≤ 100000) (hl : r.length ≤ bs.length) (htag : tag < 65536) :
    Calls Tryz.prog 20 #[.pointer (some ⟨g, 0, none⟩), .agg (rzCells 124 tag)] w (fun e w' => ∃ cs', e = .returned (.agg cs') ∧ FillAns w H g 124 tag bs (tkL [.num 4] r) cs' w') := by
  obtain ⟨W, hW⟩ : ∃ W, W = (w.alloc (.cells (rzCells 124 tag) 43)).alloc (.cells #[.int .u8 0, .int .u16 0, .int .u32 0, .string ⟨#[]⟩, .int .u32 0, .int .u32 0, .int .u32 0, .string ⟨#[]⟩, .string ⟨#[]⟩, .string ⟨#[]⟩, .int .u16 0, .slice none 0 0, .slice none 0 0, .int .u8 0, .int .u32 0, .int .u64 0, .int .u32 0, .int .u8 0, .int .u32 0, .string ⟨#[]⟩, .int .u64 0, .int .u32 0, .string ⟨#[]⟩, .int .u16 0, .int .u32 0, .int .u8 0, .int .u32 0, .int .u64 0, .int .u32 0, .int .u32 0, .int .u32 0, .int .u64 0, .string ⟨#[]⟩, .string ⟨#[]⟩, .string ⟨#[]⟩, .string ⟨#[]⟩] 43) := ⟨_, rfl⟩
  have k0 : Only (fun _ => False) w W := by rw [hW]; exact ((Only.refl _ w).alloc _).alloc _
  have n0 : Has W w.heap.size 43 (rzCells 124 tag) := by rw [hW]; exact (Has.new w _ _).alloc _
  have r0 : Has W (w.heap.size + 1) 43 RZ := by
    rw [hW]
    have := Has.new (w.alloc (.cells (rzCells 124 tag) 43)) 43 #[.int .u8 0, .int .u16 0, .int .u32 0, .string ⟨#[]⟩, .int .u32 0, .int .u32 0, .int .u32 0, .string ⟨#[]⟩, .string ⟨#[]⟩, .string ⟨#[]⟩, .int .u16 0, .slice none 0 0, .slice none 0 0, .int .u8 0, .int .u32 0, .int .u64 0, .int .u32 0, .int .u8 0, .int .u32 0, .string ⟨#[]⟩, .int .u64 0, .int .u32 0, .string ⟨#[]⟩, .int .u16 0, .int .u32 0, .int .u8 0, .int .u32 0, .int .u64 0, .int .u32 0, .int .u32 0, .int .u32 0, .int .u64 0, .string ⟨#[]⟩, .string ⟨#[]⟩, .string ⟨#[]⟩, .string ⟨#[]⟩]
    show Has _ _ _ #[.int .u8 0, .int .u16 0, .int .u32 0, .string ⟨#[]⟩, .int .u32 0, .int .u32 0, .int .u32 0, .string ⟨#[]⟩, .string ⟨#[]⟩, .string ⟨#[]⟩, .int .u16 0, .slice none 0 0, .slice none 0 0, .int .u8 0, .int .u32 0, .int .u64 0, .int .u32 0, .int .u8 0, .int .u32 0, .string ⟨#[]⟩, .int .u64 0, .int .u32 0, .string ⟨#[]⟩, .int .u16 0, .int .u32 0, .int .u8 0, .int .u32 0, .int .u64 0, .int .u32 0, .int .u32 0, .int .u32 0, .int .u64 0, .string ⟨#[]⟩, .string ⟨#[]⟩, .string ⟨#[]⟩, .string ⟨#[]⟩]
    simpa using this
  have X0 := Lib.hid (FC.start (ks := [.num 4]) h hl (by decide) htag k0 n0)
  have d0 : W.cell? ⟨w.heap.size, 0, none⟩ = some (.int .u8 124) := n0.cell 0
  have HF := Lib.hid (fun (wr : World) (rr : List UInt8) (er : Int) (cs : Array Value) (m : Nat → F) (done : List F) (c : FC W H g w.heap.size bs (tkL [.num 4] r) done [] rr er cs m wr) hd h0 h1 => c.fin (t := 124) (tag := tag) k0 r0 hd h0 h1)
  have HW := Lib.hid hW.symm
  clear h n0 r0 k0 hW
  go_enter Tryz.func20, Tryz.ntmps20
  go_upto_region 1 with fail
  refine (show Code.wp _ _ _ _ ((w.alloc (.cells (rzCells 124 tag) 43)).alloc (.cells #[.int .u8 0, .int .u16 0, .int .u32 0, .string ⟨#[]⟩, .int .u32 0, .int .u32 0, .int .u32 0, .string ⟨#[]⟩, .string ⟨#[]⟩, .string ⟨#[]⟩, .int .u16 0, .slice none 0 0, .slice none 0 0, .int .u8 0, .int .u32 0, .int .u64 0, .int .u32 0, .int .u8 0, .int .u32 0, .string ⟨#[]⟩, .int .u64 0, .int .u32 0, .string ⟨#[]⟩, .int .u16 0, .int .u32 0, .int .u8 0, .int .u32 0, .int .u64 0, .int .u32 0, .int .u32 0, .int .u32 0, .int .u64 0, .string ⟨#[]⟩, .string ⟨#[]⟩, .string ⟨#[]⟩, .string ⟨#[]⟩] 43)) from ?_)
  rw [HW.out]
  clear HW
  go_wp2_with fail
  refine (fc_num 4 4 .u32 rfl (by decide) X0.out (by decide)).mono ?_
  rintro e w1 ⟨x1, r1, e1, rfl, hx1, ⟨⟨y1, c1⟩, f1⟩, Y⟩
  have u1' : IntKind.u32.wrap (x1 : Int) = (x1 : Int) := IntWalk.u32_in _ (by omega)
  have X1 := Lib.hid Y
  clear Y X0
  obtain ⟨n9, z9, o9, r9, ans⟩ := HF.out _ _ _ _ _ _ X1.out rfl rfl rfl
  have N9 := Lib.hid n9
  have Z9 := Lib.hid z9
  have O9 := Lib.hid o9
  have R9 := Lib.hid r9
  have ANS := Lib.hid ans
  clear n9 z9 o9 r9 ans X1 HF
  go_wp2_with (first
    | (refine load_struct Tryz.underlying43 rfl Tryz.refMsgSize w.heap.size _ (.tmp 3) rfl rfl rfl N9.out Z9.out ?_)
    | (refine store_struct Tryz.refMsgSize (w.heap.size + 1) _ (.tmp 4) (.tmp 201) rfl rfl rfl rfl R9.out rfl Z9.out O9.out ?_)
    | fail)
  refine bodyPost_ret (results_cell_row rfl _ _ (w.heap.size + 1) 43 _ (0, 0) _ rfl (R9.out.setRow _) Tryz.underlying43 rfl (by rw [Z9.out]; exact Tryz.refMsgSize)) rfl ?_
  exact ⟨_, rfl, ANS.out⟩

set_option maxHeartbeats 1000000 in
theorem rfill_125 (H g : Nat) (bs r : List UInt8) (tag : Nat) (w : World) (h : RV w H g bs r 0) (hb : bs.length ≤ 100000) (hl : r.length ≤ bs.length) (htag : tag < 65536) :
    Calls Tryz.prog 20 #[.pointer (some ⟨g, 0, none⟩), .agg (rzCells 125 tag)] w (fun e w' => ∃ cs', e = .returned (.agg cs') ∧ FillAns w H g 125 tag bs (tkL [.stat] r) cs' w') := by
  obtain ⟨W, hW⟩ : ∃ W, W = (w.alloc (.cells (rzCells 125 tag) 43)).alloc (.cells #[.int .u8 0, .int .u16 0, .int .u32 0, .string ⟨#[]⟩, .int .u32 0, .int .u32 0, .int .u32 0, .string ⟨#[]⟩, .string ⟨#[]⟩, .string ⟨#[]⟩, .int .u16 0, .slice none 0 0, .slice none 0 0, .int .u8 0, .int .u32 0, .int .u64 0, .int .u32 0, .int .u8 0, .int .u32 0, .string ⟨#[]⟩, .int .u64 0, .int .u32 0, .string ⟨#[]⟩, .int .u16 0, .int .u32 0, .int .u8 0, .int .u32 0, .int .u64 0, .int .u32 0, .int .u32 0, .int .u32 0, .int .u64 0, .string ⟨#[]⟩, .string ⟨#[]⟩, .string ⟨#[]⟩, .string ⟨#[]⟩] 43) := ⟨_, rfl⟩
  have k0 : Only (fun _ => False) w W := by rw [hW]; exact ((Only.refl _ w).alloc _).alloc _
  have n0 : Has W w.heap.size 43 (rzCells 125 tag) := by rw [hW]; exact (Has.new w _ _).alloc _
  have r0 : Has W (w.heap.size + 1) 43 RZ := by
    rw [hW]
    have := Has.new (w.alloc (.cells (rzCells 125 tag) 43)) 43 #[.int .u8 0, .int .u16 0, .int .u32 0, .string ⟨#[]⟩, .int .u32 0, .int .u32 0, .int .u32 0, .string ⟨#[]⟩, .string ⟨#[]⟩, .string ⟨#[]⟩, .int .u16 0, .slice none 0 0, .slice none 0 0, .int .u8 0, .int .u32 0, .int .u64 0, .int .u32 0, .int .u8 0, .int .u32 0, .string ⟨#[]⟩, .int .u64 0, .int .u32 0, .string ⟨#[]⟩, .int .u16 0, .int .u32 0, .int .u8 0, .int .u32 0, .int .u64 0, .int .u32 0, .int .u32 0, .int .u32 0, .int .u64 0, .string ⟨#[]⟩, .string ⟨#[]⟩, .string ⟨#[]⟩, .string ⟨#[]⟩]
    show Has _ _ _ #[.int .u8 0, .int .u16 0, .int .u32 0, .string ⟨#[]⟩, .int .u32 0, .int .u32 0, .int .u32 0, .string ⟨#[]⟩, .string ⟨#[]⟩, .string ⟨#[]⟩, .int .u16 0, .slice none 0 0, .slice none 0 0, .int .u8 0, .int .u32 0, .int .u64 0, .int .u32 0, .int .u8 0, .int .u32 0, .string ⟨#[]⟩, .int .u64 0, .int .u32 0, .string ⟨#[]⟩, .int .u16 0, .int .u32 0, .int .u8 0, .int .u32 0, .int .u64 0, .int .u32 0, .int .u32 0, .int .u32 0, .int .u64 0, .string ⟨#[]⟩, .string ⟨#[]⟩, .string ⟨#[]⟩, .string ⟨#[]⟩]
    simpa using this
  have X0 := Lib.hid (FC.start (ks := [.stat]) h hl (by decide) htag k0 n0)
  have d0 : W.cell? ⟨w.heap.size, 0, none⟩ = some (.int .u8 125) := n0.cell 0
  have HF := Lib.hid (fun (wr : World) (rr : List UInt8) (er : Int) (cs : Array Value) (m : Nat → F) (done : List F) (c : FC W H g w.heap.size bs (tkL [.stat] r) done [] rr er cs m wr) hd h0 h1 => c.fin (t := 125) (tag := tag) k0 r0 hd h0 h1)
  have HW := Lib.hid hW.symm
  clear h n0 r0 k0 hW
  go_enter Tryz.func20, Tryz.ntmps20
  go_upto_region 1 with fail
  refine (show Code.wp _ _ _ _ ((w.alloc (.cells (rzCells 125 tag) 43)).alloc (.cells #[.int .u8 0, .int .u16 0, .int .u32 0, .string ⟨#[]⟩, .int .u32 0, .int .u32 0, .int .u32 0, .string ⟨#[]⟩, .string ⟨#[]⟩, .string ⟨#[]⟩, .int .u16 0, .slice none 0 0, .slice none 0 0, .int .u8 0, .int .u32 0, .int .u64 0, .int .u32 0, .int .u8 0, .int .u32 0, .string ⟨#[]⟩, .int .u64 0, .int .u32 0, .string ⟨#[]⟩, .int .u16 0, .int .u32 0, .int .u8 0, .int .u32 0, .int .u64 0, .int .u32 0, .int .u32 0, .int .u32 0, .int .u64 0, .string ⟨#[]⟩, .string ⟨#[]⟩, .string ⟨#[]⟩, .string ⟨#[]⟩] 43)) from ?_)
  rw [HW.out]
  clear HW
  go_wp2_with fail
  refine (fc_stat 23 X0.out (by decide) hb).mono ?_
  rintro e w1 ⟨x1, r1, e1, rfl, hh, Y⟩
  have X1 := Lib.hid Y
  have zc := X0.out.mg.size
  have f10 := hh.frozen 23
  obtain ⟨y10, g10⟩ : ∃ y, w1.cell? ⟨w.heap.size, 23, none⟩ = some y := ⟨_, (hh.cell 23).trans (Array.getElem?_eq_getElem (by omega))⟩
  have f11 := hh.frozen 24
  obtain ⟨y11, g11⟩ : ∃ y, w1.cell? ⟨w.heap.size, 24, none⟩ = some y := ⟨_, (hh.cell 24).trans (Array.getElem?_eq_getElem (by omega))⟩
  have f12 := hh.frozen 25
  obtain ⟨y12, g12⟩ : ∃ y, w1.cell? ⟨w.heap.size, 25, none⟩ = some y := ⟨_, (hh.cell 25).trans (Array.getElem?_eq_getElem (by omega))⟩
  have f13 := hh.frozen 26
  obtain ⟨y13, g13⟩ : ∃ y, w1.cell? ⟨w.heap.size, 26, none⟩ = some y := ⟨_, (hh.cell 26).trans (Array.getElem?_eq_getElem (by omega))⟩
  have f14 := hh.frozen 27
  obtain ⟨y14, g14⟩ : ∃ y, w1.cell? ⟨w.heap.size, 27, none⟩ = some y := ⟨_, (hh.cell 27).trans (Array.getElem?_eq_getElem (by omega))⟩
  have f15 := hh.frozen 28
  obtain ⟨y15, g15⟩ : ∃ y, w1.cell? ⟨w.heap.size, 28, none⟩ = some y := ⟨_, (hh.cell 28).trans (Array.getElem?_eq_getElem (by omega))⟩
  have f16 := hh.frozen 29
  obtain ⟨y16, g16⟩ : ∃ y, w1.cell? ⟨w.heap.size, 29, none⟩ = some y := ⟨_, (hh.cell 29).trans (Array.getElem?_eq_getElem (by omega))⟩
  have f17 := hh.frozen 30
  obtain ⟨y17, g17⟩ : ∃ y, w1.cell? ⟨w.heap.size, 30, none⟩ = some y := ⟨_, (hh.cell 30).trans (Array.getElem?_eq_getElem (by omega))⟩
  have f18 := hh.frozen 31
  obtain ⟨y18, g18⟩ : ∃ y, w1.cell? ⟨w.heap.size, 31, none⟩ = some y := ⟨_, (hh.cell 31).trans (Array.getElem?_eq_getElem (by omega))⟩
  have f19 := hh.frozen 32
  obtain ⟨y19, g19⟩ : ∃ y, w1.cell? ⟨w.heap.size, 32, none⟩ = some y := ⟨_, (hh.cell 32).trans (Array.getElem?_eq_getElem (by omega))⟩
  have f110 := hh.frozen 33
  obtain ⟨y110, g110⟩ : ∃ y, w1.cell? ⟨w.heap.size, 33, none⟩ = some y := ⟨_, (hh.cell 33).trans (Array.getElem?_eq_getElem (by omega))⟩
  have f111 := hh.frozen 34
  obtain ⟨y111, g111⟩ : ∃ y, w1.cell? ⟨w.heap.size, 34, none⟩ = some y := ⟨_, (hh.cell 34).trans (Array.getElem?_eq_getElem (by omega))⟩
  have f112 := hh.frozen 35
  obtain ⟨y112, g112⟩ : ∃ y, w1.cell? ⟨w.heap.size, 35, none⟩ = some y := ⟨_, (hh.cell 35).trans (Array.getElem?_eq_getElem (by omega))⟩
  clear Y X0 hh zc
  unfold S11.val S11.cells
  go_upto_region 69 with fail
  refine (show Code.wp _ _ _ _ (set13o w1 w.heap.size 23 x1) from ?_)
  obtain ⟨w1s, hws⟩ : ∃ ws, ws = set13o w1 w.heap.size 23 x1 := ⟨_, rfl⟩
  rw [← hws] at X1 ⊢
  clear hws
  clear f10 g10
  clear f11 g11
  clear f12 g12
  clear f13 g13
  clear f14 g14
  clear f15 g15
  clear f16 g16
  clear f17 g17
  clear f18 g18
  clear f19 g19
  clear f110 g110
  clear f111 g111
  clear f112 g112
  obtain ⟨n9, z9, o9, r9, ans⟩ := HF.out _ _ _ _ _ _ X1.out rfl rfl rfl
  have N9 := Lib.hid n9
  have Z9 := Lib.hid z9
  have O9 := Lib.hid o9
  have R9 := Lib.hid r9
  have ANS := Lib.hid ans
  clear n9 z9 o9 r9 ans X1 HF
  go_wp2_with (first
    | (refine load_struct Tryz.underlying43 rfl Tryz.refMsgSize w.heap.size _ (.tmp 3) rfl rfl rfl N9.out Z9.out ?_)
    | (refine store_struct Tryz.refMsgSize (w.heap.size + 1) _ (.tmp 4) (.tmp 201) rfl rfl rfl rfl R9.out rfl Z9.out O9.out ?_)
    | fail)
  refine bodyPost_ret (results_cell_row rfl _ _ (w.heap.size + 1) 43 _ (0, 0) _ rfl (R9.out.setRow _) Tryz.underlying43 rfl (by rw [Z9.out]; exact Tryz.refMsgSize)) rfl ?_
  exact ⟨_, rfl, ANS.out⟩

set_option maxHeartbeats 1000000 in
theorem rfill_126 (H g : Nat) (bs r : List UInt8) (tag : Nat) (w : World) (h : RV w H g bs r 0) (hb : bs.length ≤ 100000) (hl : r.length ≤ bs.length) (htag : tag < 65536) :
    Calls Tryz.prog 20 #[.pointer (some ⟨g, 0, none⟩), .agg (rzCells 126 tag)] w (fun e w' => ∃ cs', e = .returned (.agg cs') ∧ FillAns w H g 126 tag bs (tkL [.num 4, .stat] r) cs' w') := by
  obtain ⟨W, hW⟩ : ∃ W, W = (w.alloc (.cells (rzCells 126 tag) 43)).alloc (.cells #[.int .u8 0, .int .u16 0, .int .u32 0, .string ⟨#[]⟩, .int .u32 0, .int .u32 0, .int .u32 0, .string ⟨#[]⟩, .string ⟨#[]⟩, .string ⟨#[]⟩, .int .u16 0, .slice none 0 0, .slice none 0 0, .int .u8 0, .int .u32 0, .int .u64 0, .int .u32 0, .int .u8 0, .int .u32 0, .string ⟨#[]⟩, .int .u64 0, .int .u32 0, .string ⟨#[]⟩, .int .u16 0, .int .u32 0, .int .u8 0, .int .u32 0, .int .u64 0, .int .u32 0, .int .u32 0, .int .u32 0, .int .u64 0, .string ⟨#[]⟩, .string ⟨#[]⟩, .string ⟨#[]⟩, .string ⟨#[]⟩] 43) := ⟨_, rfl⟩
  have k0 : Only (fun _ => False) w W := by rw [hW]; exact ((Only.refl _ w).alloc _).alloc _
  have n0 : Has W w.heap.size 43 (rzCells 126 tag) := by rw [hW]; exact (Has.new w _ _).alloc _
  have r0 : Has W (w.heap.size + 1) 43 RZ := by
    rw [hW]
    have := Has.new (w.alloc (.cells (rzCells 126 tag) 43)) 43 #[.int .u8 0, .int .u16 0, .int .u32 0, .string ⟨#[]⟩, .int .u32 0, .int .u32 0, .int .u32 0, .string ⟨#[]⟩, .string ⟨#[]⟩, .string ⟨#[]⟩, .int .u16 0, .slice none 0 0, .slice none 0 0, .int .u8 0, .int .u32 0, .int .u64 0, .int .u32 0, .int .u8 0, .int .u32 0, .string ⟨#[]⟩, .int .u64 0, .int .u32 0, .string ⟨#[]⟩, .int .u16 0, .int .u32 0, .int .u8 0, .int .u32 0, .int .u64 0, .int .u32 0, .int .u32 0, .int .u32 0, .int .u64 0, .string ⟨#[]⟩, .string ⟨#[]⟩, .string ⟨#[]⟩, .string ⟨#[]⟩]
    show Has _ _ _ #[.int .u8 0, .int .u16 0, .int .u32 0, .string ⟨#[]⟩, .int .u32 0, .int .u32 0, .int .u32 0, .string ⟨#[]⟩, .string ⟨#[]⟩, .string ⟨#[]⟩, .int .u16 0, .slice none 0 0, .slice none 0 0, .int .u8 0, .int .u32 0, .int .u64 0, .int .u32 0, .int .u8 0, .int .u32 0, .string ⟨#[]⟩, .int .u64 0, .int .u32 0, .string ⟨#[]⟩, .int .u16 0, .int .u32 0, .int .u8 0, .int .u32 0, .int .u64 0, .int .u32 0, .int .u32 0, .int .u32 0, .int .u64 0, .string ⟨#[]⟩, .string ⟨#[]⟩, .string ⟨#[]⟩, .string ⟨#[]⟩]
    simpa using this
  have X0 := Lib.hid (FC.start (ks := [.num 4, .stat]) h hl (by decide) htag k0 n0)
  have d0 : W.cell? ⟨w.heap.size, 0, none⟩ = some (.int .u8 126) := n0.cell 0
  have HF := Lib.hid (fun (wr : World) (rr : List UInt8) (er : Int) (cs : Array Value) (m : Nat → F) (done : List F) (c : FC W H g w.heap.size bs (tkL [.num 4, .stat] r) done [] rr er cs m wr) hd h0 h1 => c.fin (t := 126) (tag := tag) k0 r0 hd h0 h1)
  have HW := Lib.hid hW.symm
  clear h n0 r0 k0 hW
  go_enter Tryz.func20, Tryz.ntmps20
  go_upto_region 1 with fail
  refine (show Code.wp _ _ _ _ ((w.alloc (.cells (rzCells 126 tag) 43)).alloc (.cells #[.int .u8 0, .int .u16 0, .int .u32 0, .string ⟨#[]⟩, .int .u32 0, .int .u32 0, .int .u32 0, .string ⟨#[]⟩, .string ⟨#[]⟩, .string ⟨#[]⟩, .int .u16 0, .slice none 0 0, .slice none 0 0, .int .u8 0, .int .u32 0, .int .u64 0, .int .u32 0, .int .u8 0, .int .u32 0, .string ⟨#[]⟩, .int .u64 0, .int .u32 0, .string ⟨#[]⟩, .int .u16 0, .int .u32 0, .int .u8 0, .int .u32 0, .int .u64 0, .int .u32 0, .int .u32 0, .int .u32 0, .int .u64 0, .string ⟨#[]⟩, .string ⟨#[]⟩, .string ⟨#[]⟩, .string ⟨#[]⟩] 43)) from ?_)
  rw [HW.out]
  clear HW
  go_wp2_with fail
  refine (fc_num 4 4 .u32 rfl (by decide) X0.out (by decide)).mono ?_
  rintro e w1 ⟨x1, r1, e1, rfl, hx1, ⟨⟨y1, c1⟩, f1⟩, Y⟩
  have u1' : IntKind.u32.wrap (x1 : Int) = (x1 : Int) := IntWalk.u32_in _ (by omega)
  have X1 := Lib.hid Y
  clear Y X0
  go_wp2_with fail
  refine (fc_stat 23 X1.out (by decide) hb).mono ?_
  rintro e w2 ⟨x2, r2, e2, rfl, hh, Y⟩
  have X2 := Lib.hid Y
  have zc := X1.out.mg.size
  have f20 := hh.frozen 23
  obtain ⟨y20, g20⟩ : ∃ y, w2.cell? ⟨w.heap.size, 23, none⟩ = some y := ⟨_, (hh.cell 23).trans (Array.getElem?_eq_getElem (by omega))⟩
  have f21 := hh.frozen 24
  obtain ⟨y21, g21⟩ : ∃ y, w2.cell? ⟨w.heap.size, 24, none⟩ = some y := ⟨_, (hh.cell 24).trans (Array.getElem?_eq_getElem (by omega))⟩
  have f22 := hh.frozen 25
  obtain ⟨y22, g22⟩ : ∃ y, w2.cell? ⟨w.heap.size, 25, none⟩ = some y := ⟨_, (hh.cell 25).trans (Array.getElem?_eq_getElem (by omega))⟩
  have f23 := hh.frozen 26
  obtain ⟨y23, g23⟩ : ∃ y, w2.cell? ⟨w.heap.size, 26, none⟩ = some y := ⟨_, (hh.cell 26).trans (Array.getElem?_eq_getElem (by omega))⟩
  have f24 := hh.frozen 27
  obtain ⟨y24, g24⟩ : ∃ y, w2.cell? ⟨w.heap.size, 27, none⟩ = some y := ⟨_, (hh.cell 27).trans (Array.getElem?_eq_getElem (by omega))⟩
  have f25 := hh.frozen 28
  obtain ⟨y25, g25⟩ : ∃ y, w2.cell? ⟨w.heap.size, 28, none⟩ = some y := ⟨_, (hh.cell 28).trans (Array.getElem?_eq_getElem (by omega))⟩
  have f26 := hh.frozen 29
  obtain ⟨y26, g26⟩ : ∃ y, w2.cell? ⟨w.heap.size, 29, none⟩ = some y := ⟨_, (hh.cell 29).trans (Array.getElem?_eq_getElem (by omega))⟩
  have f27 := hh.frozen 30
  obtain ⟨y27, g27⟩ : ∃ y, w2.cell? ⟨w.heap.size, 30, none⟩ = some y := ⟨_, (hh.cell 30).trans (Array.getElem?_eq_getElem (by omega))⟩
  have f28 := hh.frozen 31
  obtain ⟨y28, g28⟩ : ∃ y, w2.cell? ⟨w.heap.size, 31, none⟩ = some y := ⟨_, (hh.cell 31).trans (Array.getElem?_eq_getElem (by omega))⟩
  have f29 := hh.frozen 32
  obtain ⟨y29, g29⟩ : ∃ y, w2.cell? ⟨w.heap.size, 32, none⟩ = some y := ⟨_, (hh.cell 32).trans (Array.getElem?_eq_getElem (by omega))⟩
  have f210 := hh.frozen 33
  obtain ⟨y210, g210⟩ : ∃ y, w2.cell? ⟨w.heap.size, 33, none⟩ = some y := ⟨_, (hh.cell 33).trans (Array.getElem?_eq_getElem (by omega))⟩
  have f211 := hh.frozen 34
  obtain ⟨y211, g211⟩ : ∃ y, w2.cell? ⟨w.heap.size, 34, none⟩ = some y := ⟨_, (hh.cell 34).trans (Array.getElem?_eq_getElem (by omega))⟩
  have f212 := hh.frozen 35
  obtain ⟨y212, g212⟩ : ∃ y, w2.cell? ⟨w.heap.size, 35, none⟩ = some y := ⟨_, (hh.cell 35).trans (Array.getElem?_eq_getElem (by omega))⟩
  clear Y X1 hh zc
  unfold S11.val S11.cells
  go_upto_region 69 with fail
  refine (show Code.wp _ _ _ _ (set13o w2 w.heap.size 23 x2) from ?_)
  obtain ⟨w2s, hws⟩ : ∃ ws, ws = set13o w2 w.heap.size 23 x2 := ⟨_, rfl⟩
  rw [← hws] at X2 ⊢
  clear hws
  clear f20 g20
  clear f21 g21
  clear f22 g22
  clear f23 g23
  clear f24 g24
  clear f25 g25
  clear f26 g26
  clear f27 g27
  clear f28 g28
  clear f29 g29
  clear f210 g210
  clear f211 g211
  clear f212 g212
  obtain ⟨n9, z9, o9, r9, ans⟩ := HF.out _ _ _ _ _ _ X2.out rfl rfl rfl
  have N9 := Lib.hid n9
  have Z9 := Lib.hid z9
  have O9 := Lib.hid o9
  have R9 := Lib.hid r9
  have ANS := Lib.hid ans
  clear n9 z9 o9 r9 ans X2 HF
  go_wp2_with (first
    | (refine load_struct Tryz.underlying43 rfl Tryz.refMsgSize w.heap.size _ (.tmp 3) rfl rfl rfl N9.out Z9.out ?_)
    | (refine store_struct Tryz.refMsgSize (w.heap.size + 1) _ (.tmp 4) (.tmp 201) rfl rfl rfl rfl R9.out rfl Z9.out O9.out ?_)
    | fail)
  refine bodyPost_ret (results_cell_row rfl _ _ (w.heap.size + 1) 43 _ (0, 0) _ rfl (R9.out.setRow _) Tryz.underlying43 rfl (by rw [Z9.out]; exact Tryz.refMsgSize)) rfl ?_
  exact ⟨_, rfl, ANS.out⟩

set_option maxHeartbeats 1000000 in
theorem rfill_127 (H g : Nat) (bs r : List UInt8) (tag : Nat) (w : World) (h : RV w H g bs r 0) (_hb : bs.length ≤ 100000) (hl : r.length ≤ bs.length) (htag : tag < 65536) :
    Calls Tryz.prog 20 #[.pointer (some ⟨g, 0, none⟩), .agg (rzCells 127 tag)] w (fun e w' => ∃ cs', e = .returned (.agg cs') ∧ FillAns w H g 127 tag bs (tkL [] r) cs' w') := by
  obtain ⟨W, hW⟩ : ∃ W, W = (w.alloc (.cells (rzCells 127 tag) 43)).alloc (.cells #[.int .u8 0, .int .u16 0, .int .u32 0, .string ⟨#[]⟩, .int .u32 0, .int .u32 0, .int .u32 0, .string ⟨#[]⟩, .string ⟨#[]⟩, .string ⟨#[]⟩, .int .u16 0, .slice none 0 0, .slice none 0 0, .int .u8 0, .int .u32 0, .int .u64 0, .int .u32 0, .int .u8 0, .int .u32 0, .string ⟨#[]⟩, .int .u64 0, .int .u32 0, .string ⟨#[]⟩, .int .u16 0, .int .u32 0, .int .u8 0, .int .u32 0, .int .u64 0, .int .u32 0, .int .u32 0, .int .u32 0, .int .u64 0, .string ⟨#[]⟩, .string ⟨#[]⟩, .string ⟨#[]⟩, .string ⟨#[]⟩] 43) := ⟨_, rfl⟩
  have k0 : Only (fun _ => False) w W := by rw [hW]; exact ((Only.refl _ w).alloc _).alloc _
  have n0 : Has W w.heap.size 43 (rzCells 127 tag) := by rw [hW]; exact (Has.new w _ _).alloc _
  have r0 : Has W (w.heap.size + 1) 43 RZ := by
    rw [hW]
    have := Has.new (w.alloc (.cells (rzCells 127 tag) 43)) 43 #[.int .u8 0, .int .u16 0, .int .u32 0, .string ⟨#[]⟩, .int .u32 0, .int .u32 0, .int .u32 0, .string ⟨#[]⟩, .string ⟨#[]⟩, .string ⟨#[]⟩, .int .u16 0, .slice none 0 0, .slice none 0 0, .int .u8 0, .int .u32 0, .int .u64 0, .int .u32 0, .int .u8 0, .int .u32 0, .string ⟨#[]⟩, .int .u64 0, .int .u32 0, .string ⟨#[]⟩, .int .u16 0, .int .u32 0, .int .u8 0, .int .u32 0, .int .u64 0, .int .u32 0, .int .u32 0, .int .u32 0, .int .u64 0, .string ⟨#[]⟩, .string ⟨#[]⟩, .string ⟨#[]⟩, .string ⟨#[]⟩]
    show Has _ _ _ #[.int .u8 0, .int .u16 0, .int .u32 0, .string ⟨#[]⟩, .int .u32 0, .int .u32 0, .int .u32 0, .string ⟨#[]⟩, .string ⟨#[]⟩, .string ⟨#[]⟩, .int .u16 0, .slice none 0 0, .slice none 0 0, .int .u8 0, .int .u32 0, .int .u64 0, .int .u32 0, .int .u8 0, .int .u32 0, .string ⟨#[]⟩, .int .u64 0, .int .u32 0, .string ⟨#[]⟩, .int .u16 0, .int .u32 0, .int .u8 0, .int .u32 0, .int .u64 0, .int .u32 0, .int .u32 0, .int .u32 0, .int .u64 0, .string ⟨#[]⟩, .string ⟨#[]⟩, .string ⟨#[]⟩, .string ⟨#[]⟩]
    simpa using this
  have X0 := Lib.hid (FC.start (ks := []) h hl (by decide) htag k0 n0)
  have d0 : W.cell? ⟨w.heap.size, 0, none⟩ = some (.int .u8 127) := n0.cell 0
  have HF := Lib.hid (fun (wr : World) (rr : List UInt8) (er : Int) (cs : Array Value) (m : Nat → F) (done : List F) (c : FC W H g w.heap.size bs (tkL [] r) done [] rr er cs m wr) hd h0 h1 => c.fin (t := 127) (tag := tag) k0 r0 hd h0 h1)
  have HW := Lib.hid hW.symm
  clear h n0 r0 k0 hW
  go_enter Tryz.func20, Tryz.ntmps20
  go_upto_region 1 with fail
  refine (show Code.wp _ _ _ _ ((w.alloc (.cells (rzCells 127 tag) 43)).alloc (.cells #[.int .u8 0, .int .u16 0, .int .u32 0, .string ⟨#[]⟩, .int .u32 0, .int .u32 0, .int .u32 0, .string ⟨#[]⟩, .string ⟨#[]⟩, .string ⟨#[]⟩, .int .u16 0, .slice none 0 0, .slice none 0 0, .int .u8 0, .int .u32 0, .int .u64 0, .int .u32 0, .int .u8 0, .int .u32 0, .string ⟨#[]⟩, .int .u64 0, .int .u32 0, .string ⟨#[]⟩, .int .u16 0, .int .u32 0, .int .u8 0, .int .u32 0, .int .u64 0, .int .u32 0, .int .u32 0, .int .u32 0, .int .u64 0, .string ⟨#[]⟩, .string ⟨#[]⟩, .string ⟨#[]⟩, .string ⟨#[]⟩] 43)) from ?_)
  rw [HW.out]
  clear HW
  obtain ⟨n9, z9, o9, r9, ans⟩ := HF.out _ _ _ _ _ _ X0.out rfl rfl rfl
  have N9 := Lib.hid n9
  have Z9 := Lib.hid z9
  have O9 := Lib.hid o9
  have R9 := Lib.hid r9
  have ANS := Lib.hid ans
  clear n9 z9 o9 r9 ans X0 HF
  go_wp2_with (first
    | (refine load_struct Tryz.underlying43 rfl Tryz.refMsgSize w.heap.size _ (.tmp 3) rfl rfl rfl N9.out Z9.out ?_)
    | (refine store_struct Tryz.refMsgSize (w.heap.size + 1) _ (.tmp 4) (.tmp 201) rfl rfl rfl rfl R9.out rfl Z9.out O9.out ?_)
    | fail)
  refine bodyPost_ret (results_cell_row rfl _ _ (w.heap.size + 1) 43 _ (0, 0) _ rfl (R9.out.setRow _) Tryz.underlying43 rfl (by rw [Z9.out]; exact Tryz.refMsgSize)) rfl ?_
  exact ⟨_, rfl, ANS.out⟩
end Go.Proofs.YtepiifbleoimkaaGreatDoor
