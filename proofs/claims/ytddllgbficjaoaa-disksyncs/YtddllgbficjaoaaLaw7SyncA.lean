/-
  DiskSyncs: what the disk keeps and what the law's numbers say, as lists. Nothing of the program is used here.
-/
import Derived.Test.YtddllgbficjaoaaLaw7Known
namespace Go.Proofs.Ytddllgbficjaoaa
open Go.RowKit Go.Lib

/-- A sector with a number at its front. -/
def sec (n : Nat) : List UInt8 := (List.replicate 64 (0 : UInt8)).set 0 (UInt8.ofNat n)
theorem sec_length (n : Nat) : (sec n).length = 64 := by simp [sec]
theorem sec_zero : sec 0 = List.replicate 64 0 := by decide
theorem sec_first {n : Nat} (h : n ≤ 80) : ∃ hl : 0 < (sec n).length, b8 (sec n)[0] = .int .u8 (n : Int) := by
  refine ⟨by simp [sec], ?_⟩
  have e : (sec n)[0]'(by simp [sec]) = UInt8.ofNat n := by simp [sec]
  rw [e]
  unfold b8
  rw [UInt8.toNat_ofNat']
  congr 2
  omega
def Z8 : List (List UInt8) := List.replicate 8 (List.replicate 64 0)
/-- All writes of a play: sector, bytes. -/
def playW (cs : List UInt8) : List (Nat × List UInt8) := (List.range cs.length).map fun i => ((cs.getD i 0).toNat % 8, sec (i + 1))
theorem playW_length (cs : List UInt8) : (playW cs).length = cs.length := by simp [playW]
theorem playW_get (cs : List UInt8) (i : Nat) (h : i < (playW cs).length) : (playW cs)[i] = ((cs.getD i 0).toNat % 8, sec (i + 1)) := by simp [playW]

def syncSt (la : Nat) (ps : List (Nat × List UInt8)) (i : Nat) : D :=
  if i < la then ⟨64, Z8, ps.take i, i, false, 0, []⟩ else ⟨64, applyL Z8 (ps.take la), (ps.drop la).take (i - la), i, false, 0, []⟩
def effL (la : Nat) (ps : List (Nat × List UInt8)) (keep : List Bool) (i : Nat) : List (List UInt8) :=
  if i ≤ la then applyL Z8 (ps.take i) else applyL (applyL Z8 (ps.take la)) (chosen ((ps.drop la).take (i - la)) keep)
theorem effL_of_ge {la i : Nat} {ps : List (Nat × List UInt8)} {keep : List Bool} (h : la ≤ i) : effL la ps keep i = applyL (applyL Z8 (ps.take la)) (chosen ((ps.drop la).take (i - la)) keep) := by
  unfold effL
  split
  · have e : i = la := by omega
    subst e
    simp [chosen, applyL]
  · rfl
section
variable {la i k : Nat} {ps : List (Nat × List UInt8)} {keep : List Bool} {x : List UInt8}
theorem effL_first (h : i < la) (hi : ps[i]? = some (k, x)) : effL la ps keep (i + 1) = (effL la ps keep i).set k x := by
  obtain ⟨hl, e⟩ := List.getElem?_eq_some_iff.1 hi
  unfold effL
  rw [if_pos (by omega), if_pos (by omega), List.take_succ_eq_append_getElem hl, e, applyL_one]
theorem effL_more (h : la ≤ i) (hi : ps[i]? = some (k, x)) : effL la ps keep (i + 1) = if keep[i - la]? = some true then (effL la ps keep i).set k x else effL la ps keep i := by
  obtain ⟨hl, e⟩ := List.getElem?_eq_some_iff.1 hi
  rw [effL_of_ge h, effL_of_ge (by omega), show i + 1 - la = (i - la) + 1 by omega, chosen_step _ _ _ (by simp; omega)]
  have e2 : (ps.drop la)[i - la]'(by simp; omega) = (k, x) := by
    rw [List.getElem_drop, ← e]
    congr 1
    omega
  rw [e2]
  split
  · rw [applyL_one]
  · rw [List.append_nil]
theorem syncSt_length : (syncSt la ps i).kept.length = 8 := by
  unfold syncSt
  split
  · rfl
  · simp [applyL_length, Z8]
theorem syncSt_write_first (h : i + 1 < la) (hi : ps[i]? = some (k, x)) (hk : k < 8) (hx : x.length = 64) : (syncSt la ps i).write (k : Int) x = (0, syncSt la ps (i + 1)) := by
  obtain ⟨hl, e⟩ := List.getElem?_eq_some_iff.1 hi
  have hlen := syncSt_length (la := la) (ps := ps) (i := i)
  have hlen' : ((syncSt la ps i).kept.length : Int) = 8 := by rw [hlen]; rfl
  have hsz : (syncSt la ps i).size = 64 := by unfold syncSt; split <;> rfl
  have ho : (syncSt la ps i).off = false := by unfold syncSt; split <;> rfl
  have ha : (syncSt la ps i).armed = 0 := by unfold syncSt; split <;> rfl
  rw [D.write, if_neg (by rw [ho]; decide), if_neg (by rw [hlen', hsz]; omega), if_neg (by rw [ha]; decide)]
  congr 1
  unfold syncSt D.put
  rw [if_pos (by omega), if_pos h, List.take_succ_eq_append_getElem hl, e]
  simp
theorem syncSt_write_more (h : la ≤ i) (hi : ps[i]? = some (k, x)) (hk : k < 8) (hx : x.length = 64) : (syncSt la ps i).write (k : Int) x = (0, syncSt la ps (i + 1)) := by
  obtain ⟨hl, e⟩ := List.getElem?_eq_some_iff.1 hi
  have hlen := syncSt_length (la := la) (ps := ps) (i := i)
  have hlen' : ((syncSt la ps i).kept.length : Int) = 8 := by rw [hlen]; rfl
  have hsz : (syncSt la ps i).size = 64 := by unfold syncSt; split <;> rfl
  have ho : (syncSt la ps i).off = false := by unfold syncSt; split <;> rfl
  have ha : (syncSt la ps i).armed = 0 := by unfold syncSt; split <;> rfl
  rw [D.write, if_neg (by rw [ho]; decide), if_neg (by rw [hlen', hsz]; omega), if_neg (by rw [ha]; decide)]
  congr 1
  unfold syncSt D.put
  have hd : i - la < (ps.drop la).length := by simp; omega
  have e2 : (ps.drop la)[i - la] = (k, x) := by
    rw [List.getElem_drop, ← e]
    congr 1
    omega
  rw [if_neg (by omega), if_neg (by omega), show i + 1 - la = (i - la) + 1 by omega, List.take_succ_eq_append_getElem hd, e2]
  simp
/-- The last write ahead of the Sync, and the Sync. -/
def midSt (la : Nat) (ps : List (Nat × List UInt8)) : D := ⟨64, Z8, ps.take la, la, false, 0, []⟩
theorem syncSt_write_last (h : i + 1 = la) (hi : ps[i]? = some (k, x)) (hk : k < 8) (hx : x.length = 64) : (syncSt la ps i).write (k : Int) x = (0, midSt la ps) := by
  obtain ⟨hl, e⟩ := List.getElem?_eq_some_iff.1 hi
  have hlen := syncSt_length (la := la) (ps := ps) (i := i)
  have hlen' : ((syncSt la ps i).kept.length : Int) = 8 := by rw [hlen]; rfl
  have hsz : (syncSt la ps i).size = 64 := by unfold syncSt; split <;> rfl
  have ho : (syncSt la ps i).off = false := by unfold syncSt; split <;> rfl
  have ha : (syncSt la ps i).armed = 0 := by unfold syncSt; split <;> rfl
  rw [D.write, if_neg (by rw [ho]; decide), if_neg (by rw [hlen', hsz]; omega), if_neg (by rw [ha]; decide)]
  congr 1
  subst h
  unfold syncSt D.put midSt
  rw [if_pos (by omega), List.take_succ_eq_append_getElem hl, e]
  simp
theorem midSt_sync : (midSt la ps).sync = (0, syncSt la ps la) := by
  unfold D.sync midSt syncSt
  rw [if_neg (by simp), if_neg (by omega)]
  simp [D.seen]
theorem syncSt_small (hi : i ≤ 1000) (hl : la ≤ 1000) : (syncSt la ps i).Small := by
  unfold syncSt
  split
  · exact ⟨by simp; omega, by simp, by simp; omega⟩
  · exact ⟨by simp; omega, by simp, by simp; omega⟩
theorem midSt_small (hl : la ≤ 1000) : (midSt la ps).Small := ⟨by simp [midSt]; omega, by simp [midSt], by simp [midSt]; omega⟩
/-- What is there at the end. -/
def endSt (l : List (List UInt8)) (n : Nat) : D := ⟨64, l, [], n, false, 0, []⟩
theorem syncSt_end (h : la ≤ i) : { (syncSt la ps i).cut keep with off := false } = endSt (effL la ps keep i) i := by
  rw [effL_of_ge h]
  unfold syncSt endSt D.cut
  rw [if_neg (by omega)]
theorem endSt_read {l : List (List UInt8)} {n : Nat} (hk : k < l.length) : (endSt l n).read (k : Int) = (0, l[k]) := by
  have hl : (endSt l n).kept.length = l.length := rfl
  rw [D.read, if_neg (by simp [endSt]), if_pos (by rw [hl]; omega)]
  simp [endSt, D.seen, applyL, hk]
end
end Go.Proofs.Ytddllgbficjaoaa
