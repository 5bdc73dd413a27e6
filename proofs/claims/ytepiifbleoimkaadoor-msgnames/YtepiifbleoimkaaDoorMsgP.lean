/-
  Package msg: same: the other kinds.
-/
import Derived.Test.YtepiifbleoimkaaDoorMsgO
import Derived.StillTailTactics
namespace Go.Proofs.YtepiifbleoimkaaDoor
open Go.RowKit
set_option maxRecDepth 100000

set_option maxHeartbeats 1000000 in
theorem same_texts (ma oa mb ob : Nat) (ca cb : Array Value) (lo hi lo' hi' : Nat) (L M : List (List UInt8)) (w : World) (ha : Has w ma 33 ca) (hb : Has w mb 33 cb) (hca : FAt w lo hi ca oa (.texts L)) (hcb : FAt w lo' hi' cb ob (.texts M)) (hh : hi ≤ w.heap.size) (hh' : hi' ≤ w.heap.size) (hL : L.length ≤ 1000) :
    Calls Tryd.prog 37 #[.iface 86 (.pointer (some ⟨ma, oa, none⟩)), .iface 86 (.pointer (some ⟨mb, ob, none⟩))] w (Tells w (L = M)) := by
  obtain ⟨v, hca, hv⟩ := hca
  obtain ⟨v', hcb, hv'⟩ := hcb
  have c0 := (ha.cell oa).trans hca
  have c1 := (hb.cell ob).trans hcb
  have C := equals_any lo hi lo' hi' v v' L M w.drew (hv.keep (fun _ _ _ => rfl)) (hv'.keep (fun _ _ _ => rfl)) hh hh' hL
  obtain ⟨A, c, rfl, _⟩ := hv
  obtain ⟨A', c', rfl, _⟩ := hv'
  have C' := Lib.hid C
  have a0 := Tryd.as_texts_u8 ⟨ma, oa, none⟩
  have a1 := Tryd.as_texts_u16 ⟨ma, oa, none⟩
  have a2 := Tryd.as_texts_u32 ⟨ma, oa, none⟩
  have a3 := Tryd.as_texts_u64 ⟨ma, oa, none⟩
  have a4 := Tryd.as_texts_text ⟨ma, oa, none⟩
  have a5 := Tryd.as_texts_texts ⟨ma, oa, none⟩
  have b0 := Tryd.at_texts ⟨mb, ob, none⟩
  clear ha hb hca hcb C
  go_enter Tryd.func37, Tryd.ntmps37
  go_wp2_with fail
  go_still_tail 7, (by kernel_rfl)
  go_wp2_with fail
  refine C'.out.mono ?_
  rintro e w1 ⟨⟨b, rfl, hb⟩, k⟩
  have R : Hid (Tells w (L = M) (.returned (.bool b)) w1) := ⟨⟨b, rfl, hb⟩, (below_drewn w).trans k⟩
  clear C' hb k c0 c1
  go_wp2
  go_ret
  exact R.out

set_option maxHeartbeats 1000000 in
theorem same_qids (ma oa mb ob : Nat) (ca cb : Array Value) (lo hi lo' hi' : Nat) (L M : List Q3) (w : World) (ha : Has w ma 33 ca) (hb : Has w mb 33 cb) (hca : FAt w lo hi ca oa (.qids L)) (hcb : FAt w lo' hi' cb ob (.qids M)) (hh : hi ≤ w.heap.size) (hh' : hi' ≤ w.heap.size) (hL : L.length ≤ 1000) :
    Calls Tryd.prog 37 #[.iface 87 (.pointer (some ⟨ma, oa, none⟩)), .iface 87 (.pointer (some ⟨mb, ob, none⟩))] w (Tells w (L = M)) := by
  obtain ⟨v, hca, hv⟩ := hca
  obtain ⟨v', hcb, hv'⟩ := hcb
  have c0 := (ha.cell oa).trans hca
  have c1 := (hb.cell ob).trans hcb
  have C := equalq_any lo hi lo' hi' v v' L M w.drew (hv.keep (fun _ _ _ => rfl)) (hv'.keep (fun _ _ _ => rfl)) hh hh' hL
  obtain ⟨A, c, rfl, _⟩ := hv
  obtain ⟨A', c', rfl, _⟩ := hv'
  have C' := Lib.hid C
  have a0 := Tryd.as_qids_u8 ⟨ma, oa, none⟩
  have a1 := Tryd.as_qids_u16 ⟨ma, oa, none⟩
  have a2 := Tryd.as_qids_u32 ⟨ma, oa, none⟩
  have a3 := Tryd.as_qids_u64 ⟨ma, oa, none⟩
  have a4 := Tryd.as_qids_text ⟨ma, oa, none⟩
  have a5 := Tryd.as_qids_texts ⟨ma, oa, none⟩
  have a6 := Tryd.as_qids_qid ⟨ma, oa, none⟩
  have a7 := Tryd.as_qids_qids ⟨ma, oa, none⟩
  have b0 := Tryd.at_qids ⟨mb, ob, none⟩
  clear ha hb hca hcb C
  go_enter Tryd.func37, Tryd.ntmps37
  go_wp2_with fail
  go_still_tail 7, (by kernel_rfl)
  go_wp2_with fail
  refine C'.out.mono ?_
  rintro e w1 ⟨⟨b, rfl, hb⟩, k⟩
  have R : Hid (Tells w (L = M) (.returned (.bool b)) w1) := ⟨⟨b, rfl, hb⟩, (below_drewn w).trans k⟩
  clear C' hb k c0 c1
  go_wp2
  go_ret
  exact R.out

set_option maxHeartbeats 1000000 in
theorem same_data (ma oa mb ob : Nat) (ca cb : Array Value) (lo hi lo' hi' : Nat) (L M : List UInt8) (w : World) (ha : Has w ma 33 ca) (hb : Has w mb 33 cb) (hca : FAt w lo hi ca oa (.data L)) (hcb : FAt w lo' hi' cb ob (.data M)) :
    Calls Tryd.prog 37 #[.iface 90 (.pointer (some ⟨ma, oa, none⟩)), .iface 90 (.pointer (some ⟨mb, ob, none⟩))] w (Tells w (L = M)) := by
  obtain ⟨v, hca, hv⟩ := hca
  obtain ⟨v', hcb, hv'⟩ := hcb
  have c0 := (ha.cell oa).trans hca
  have c1 := (hb.cell ob).trans hcb
  have C := equalb_any lo hi lo' hi' v v' L M w.drew (hv.keep (fun _ _ _ => rfl)) (hv'.keep (fun _ _ _ => rfl))
  obtain ⟨A, c, rfl, _⟩ := hv
  obtain ⟨A', c', rfl, _⟩ := hv'
  have C' := Lib.hid C
  have a0 := Tryd.as_data_u8 ⟨ma, oa, none⟩
  have a1 := Tryd.as_data_u16 ⟨ma, oa, none⟩
  have a2 := Tryd.as_data_u32 ⟨ma, oa, none⟩
  have a3 := Tryd.as_data_u64 ⟨ma, oa, none⟩
  have a4 := Tryd.as_data_text ⟨ma, oa, none⟩
  have a5 := Tryd.as_data_texts ⟨ma, oa, none⟩
  have a6 := Tryd.as_data_qid ⟨ma, oa, none⟩
  have a7 := Tryd.as_data_qids ⟨ma, oa, none⟩
  have a8 := Tryd.as_data_data ⟨ma, oa, none⟩
  have b0 := Tryd.at_data ⟨mb, ob, none⟩
  clear ha hb hca hcb C
  go_enter Tryd.func37, Tryd.ntmps37
  go_wp2_with fail
  go_still_tail 7, (by kernel_rfl)
  go_wp2_with fail
  refine C'.out.mono ?_
  rintro e w1 ⟨⟨b, rfl, hb⟩, k⟩
  have R : Hid (Tells w (L = M) (.returned (.bool b)) w1) := ⟨⟨b, rfl, hb⟩, (below_drewn w).trans k⟩
  clear C' hb k c0 c1
  go_wp2
  go_ret
  exact R.out

set_option maxHeartbeats 1000000 in
theorem same_qid (ma oa mb ob : Nat) (ca cb : Array Value) (q r : Q3) (w : World) (ha : Has w ma 33 ca) (hb : Has w mb 33 cb) (hca : FAt w 0 0 ca oa (.qid q)) (hcb : FAt w 0 0 cb ob (.qid r)) :
    Calls Tryd.prog 37 #[.iface 84 (.pointer (some ⟨ma, oa, none⟩)), .iface 84 (.pointer (some ⟨mb, ob, none⟩))] w (Tells w (q = r)) := by
  obtain ⟨x0, x1, x2⟩ := hca
  obtain ⟨y0, y1, y2⟩ := hcb
  have c0 := (ha.cell oa).trans x0
  have c1 := (ha.cell (oa + 1)).trans x1
  have c2 := (ha.cell (oa + 2)).trans x2
  have d0 := (hb.cell ob).trans y0
  have d1 := (hb.cell (ob + 1)).trans y1
  have d2 := (hb.cell (ob + 2)).trans y2
  have a0 := Tryd.as_qid_u8 ⟨ma, oa, none⟩
  have a1 := Tryd.as_qid_u16 ⟨ma, oa, none⟩
  have a2 := Tryd.as_qid_u32 ⟨ma, oa, none⟩
  have a3 := Tryd.as_qid_u64 ⟨ma, oa, none⟩
  have a4 := Tryd.as_qid_text ⟨ma, oa, none⟩
  have a5 := Tryd.as_qid_texts ⟨ma, oa, none⟩
  have a6 := Tryd.as_qid_qid ⟨ma, oa, none⟩
  have b0 := Tryd.at_qid ⟨mb, ob, none⟩
  clear ha hb x0 x1 x2 y0 y1 y2
  by_cases hqr : q = r
  · subst hqr
    go_enter Tryd.func37, Tryd.ntmps37
    go_wp2_with fail
    go_quiet (fail)
    go_wp2
    go_ret
    exact ⟨⟨_, rfl, by simp⟩, below_drewN _ _⟩
  · have d3 := Tryd.eqQid q r hqr
    have HN := Lib.hid hqr
    clear hqr
    go_enter Tryd.func37, Tryd.ntmps37
    go_wp2_with fail
    go_quiet (fail)
    go_wp2
    go_ret
    exact ⟨⟨_, rfl, by simpa using HN.out⟩, below_drewN _ _⟩

set_option maxHeartbeats 2000000 in
theorem same_stat (ma oa mb ob : Nat) (ca cb : Array Value) (s r : S11) (w : World) (ha : Has w ma 33 ca) (hb : Has w mb 33 cb) (hca : ∀ j, j < 13 → ca[oa + j]? = s.cells[j]?) (hcb : ∀ j, j < 13 → cb[ob + j]? = r.cells[j]?) :
    Calls Tryd.prog 37 #[.iface 91 (.pointer (some ⟨ma, oa, none⟩)), .iface 91 (.pointer (some ⟨mb, ob, none⟩))] w (Tells w (s = r)) := by
  have c0 : w.cell? ⟨ma, oa, none⟩ = some (.int .u16 (s.k : Int)) := (ha.cell oa).trans (hca 0 (by omega))
  have c1 : w.cell? ⟨ma, oa + 1, none⟩ = some (.int .u32 (s.d : Int)) := (ha.cell (oa + 1)).trans (hca 1 (by omega))
  have c2 : w.cell? ⟨ma, oa + 2, none⟩ = some (.int .u8 (s.q.t : Int)) := (ha.cell (oa + 2)).trans (hca 2 (by omega))
  have c3 : w.cell? ⟨ma, oa + 3, none⟩ = some (.int .u32 (s.q.v : Int)) := (ha.cell (oa + 3)).trans (hca 3 (by omega))
  have c4 : w.cell? ⟨ma, oa + 4, none⟩ = some (.int .u64 (s.q.p : Int)) := (ha.cell (oa + 4)).trans (hca 4 (by omega))
  have c5 : w.cell? ⟨ma, oa + 5, none⟩ = some (.int .u32 (s.m : Int)) := (ha.cell (oa + 5)).trans (hca 5 (by omega))
  have c6 : w.cell? ⟨ma, oa + 6, none⟩ = some (.int .u32 (s.a : Int)) := (ha.cell (oa + 6)).trans (hca 6 (by omega))
  have c7 : w.cell? ⟨ma, oa + 7, none⟩ = some (.int .u32 (s.c : Int)) := (ha.cell (oa + 7)).trans (hca 7 (by omega))
  have c8 : w.cell? ⟨ma, oa + 8, none⟩ = some (.int .u64 (s.l : Int)) := (ha.cell (oa + 8)).trans (hca 8 (by omega))
  have c9 : w.cell? ⟨ma, oa + 9, none⟩ = some (.string (strOf s.n)) := (ha.cell (oa + 9)).trans (hca 9 (by omega))
  have c10 : w.cell? ⟨ma, oa + 10, none⟩ = some (.string (strOf s.u)) := (ha.cell (oa + 10)).trans (hca 10 (by omega))
  have c11 : w.cell? ⟨ma, oa + 11, none⟩ = some (.string (strOf s.g)) := (ha.cell (oa + 11)).trans (hca 11 (by omega))
  have c12 : w.cell? ⟨ma, oa + 12, none⟩ = some (.string (strOf s.x)) := (ha.cell (oa + 12)).trans (hca 12 (by omega))
  have d0 : w.cell? ⟨mb, ob, none⟩ = some (.int .u16 (r.k : Int)) := (hb.cell ob).trans (hcb 0 (by omega))
  have d1 : w.cell? ⟨mb, ob + 1, none⟩ = some (.int .u32 (r.d : Int)) := (hb.cell (ob + 1)).trans (hcb 1 (by omega))
  have d2 : w.cell? ⟨mb, ob + 2, none⟩ = some (.int .u8 (r.q.t : Int)) := (hb.cell (ob + 2)).trans (hcb 2 (by omega))
  have d3 : w.cell? ⟨mb, ob + 3, none⟩ = some (.int .u32 (r.q.v : Int)) := (hb.cell (ob + 3)).trans (hcb 3 (by omega))
  have d4 : w.cell? ⟨mb, ob + 4, none⟩ = some (.int .u64 (r.q.p : Int)) := (hb.cell (ob + 4)).trans (hcb 4 (by omega))
  have d5 : w.cell? ⟨mb, ob + 5, none⟩ = some (.int .u32 (r.m : Int)) := (hb.cell (ob + 5)).trans (hcb 5 (by omega))
  have d6 : w.cell? ⟨mb, ob + 6, none⟩ = some (.int .u32 (r.a : Int)) := (hb.cell (ob + 6)).trans (hcb 6 (by omega))
  have d7 : w.cell? ⟨mb, ob + 7, none⟩ = some (.int .u32 (r.c : Int)) := (hb.cell (ob + 7)).trans (hcb 7 (by omega))
  have d8 : w.cell? ⟨mb, ob + 8, none⟩ = some (.int .u64 (r.l : Int)) := (hb.cell (ob + 8)).trans (hcb 8 (by omega))
  have d9 : w.cell? ⟨mb, ob + 9, none⟩ = some (.string (strOf r.n)) := (hb.cell (ob + 9)).trans (hcb 9 (by omega))
  have d10 : w.cell? ⟨mb, ob + 10, none⟩ = some (.string (strOf r.u)) := (hb.cell (ob + 10)).trans (hcb 10 (by omega))
  have d11 : w.cell? ⟨mb, ob + 11, none⟩ = some (.string (strOf r.g)) := (hb.cell (ob + 11)).trans (hcb 11 (by omega))
  have d12 : w.cell? ⟨mb, ob + 12, none⟩ = some (.string (strOf r.x)) := (hb.cell (ob + 12)).trans (hcb 12 (by omega))
  have a0 := Tryd.as_stat_u8 ⟨ma, oa, none⟩
  have a1 := Tryd.as_stat_u16 ⟨ma, oa, none⟩
  have a2 := Tryd.as_stat_u32 ⟨ma, oa, none⟩
  have a3 := Tryd.as_stat_u64 ⟨ma, oa, none⟩
  have a4 := Tryd.as_stat_text ⟨ma, oa, none⟩
  have a5 := Tryd.as_stat_texts ⟨ma, oa, none⟩
  have a6 := Tryd.as_stat_qid ⟨ma, oa, none⟩
  have a7 := Tryd.as_stat_qids ⟨ma, oa, none⟩
  have a8 := Tryd.as_stat_data ⟨ma, oa, none⟩
  have a9 := Tryd.as_stat_stat ⟨ma, oa, none⟩
  have b0 := Tryd.at_stat ⟨mb, ob, none⟩
  clear ha hb hca hcb
  by_cases hsr : s = r
  · subst hsr
    go_enter Tryd.func37, Tryd.ntmps37
    go_wp2_with fail
    go_quiet (fail)
    go_wp2
    go_ret
    exact ⟨⟨_, rfl, by simp⟩, below_drewN _ _⟩
  · have e3 := Tryd.eqStat s r hsr
    unfold S11.val S11.cells at e3
    have HN := Lib.hid hsr
    clear hsr
    go_enter Tryd.func37, Tryd.ntmps37
    go_wp2_with fail
    go_quiet (fail)
    go_wp2
    go_ret
    exact ⟨⟨_, rfl, by simpa using HN.out⟩, below_drewN _ _⟩

theorem FAt.nowhere {w : World} {lo hi : Nat} {cs : Array Value} {off : Nat} {q : Q3} (h : FAt w lo hi cs off (.qid q)) : FAt w 0 0 cs off (.qid q) := h
theorem samef_any (ma oa mb ob : Nat) (ca cb : Array Value) (lo hi lo' hi' : Nat) (f f' : F) (w : World) (ha : Has w ma 33 ca) (hb : Has w mb 33 cb) (hca : FAt w lo hi ca oa f) (hcb : FAt w lo' hi' cb ob f') (hk : f.kind.std) (hkk : f'.kind = f.kind)
    (hh : hi ≤ w.heap.size) (hh' : hi' ≤ w.heap.size) (hfew : f.Few) :
    Calls Tryd.prog 37 #[.iface f.kind.ptr (.pointer (some ⟨ma, oa, none⟩)), .iface f.kind.ptr (.pointer (some ⟨mb, ob, none⟩))] w (Tells w (f = f')) := by
  cases f with
  | num n x =>
    cases f' with
    | num n' y =>
      have hn : n' = n := by simpa [F.kind] using hkk
      subst hn
      have hxy : x = y ↔ F.num n' x = F.num n' y := by simp
      rcases std_num hk with rfl | rfl | rfl | rfl
      · exact (same_u8 ma oa mb ob ca cb x y w ha hb hca hcb).mono fun e w' st => st.of hxy
      · exact (same_u16 ma oa mb ob ca cb x y w ha hb hca hcb).mono fun e w' st => st.of hxy
      · exact (same_u32 ma oa mb ob ca cb x y w ha hb hca hcb).mono fun e w' st => st.of hxy
      · exact (same_u64 ma oa mb ob ca cb x y w ha hb hca hcb).mono fun e w' st => st.of hxy
    | _ => cases hkk
  | text l =>
    cases f' with
    | text m => exact (same_text ma oa mb ob ca cb l m w ha hb hca hcb).mono fun e w' st => st.of (by simp)
    | _ => cases hkk
  | texts L =>
    cases f' with
    | texts M => exact (same_texts ma oa mb ob ca cb lo hi lo' hi' L M w ha hb hca hcb hh hh' hfew.1).mono fun e w' st => st.of (by simp)
    | _ => cases hkk
  | qid q =>
    cases f' with
    | qid r => exact (same_qid ma oa mb ob ca cb q r w ha hb hca.nowhere hcb.nowhere).mono fun e w' st => st.of (by simp)
    | _ => cases hkk
  | qids L =>
    cases f' with
    | qids M => exact (same_qids ma oa mb ob ca cb lo hi lo' hi' L M w ha hb hca hcb hh hh' hfew).mono fun e w' st => st.of (by simp)
    | _ => cases hkk
  | data L =>
    cases f' with
    | data M => exact (same_data ma oa mb ob ca cb lo hi lo' hi' L M w ha hb hca hcb).mono fun e w' st => st.of (by simp)
    | _ => cases hkk
  | stat s =>
    cases f' with
    | stat r => exact (same_stat ma oa mb ob ca cb s r w ha hb hca hcb).mono fun e w' st => st.of (by simp)
    | _ => cases hkk
end Go.Proofs.YtepiifbleoimkaaDoor
