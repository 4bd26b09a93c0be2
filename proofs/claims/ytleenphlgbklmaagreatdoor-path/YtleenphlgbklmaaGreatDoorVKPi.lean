import Derived.Test.YtleenphlgbklmaaGreatDoorVKTa
import Derived.Deep.RegionHeld3
set_option linter.unusedVariables false
set_option linter.unusedSimpArgs false
namespace Go.Proofs.YtleenphlgbklmaaGreatDoor
open Go.RowKit

def lvL : List ByteArray := [{ data := #[49] }, { data := #[116, 114, 117, 101] }, { data := #[110, 105, 108] }, { data := #[97, 100, 100] }, { data := #[104, 100] }]
def lvT : List ByteArray := [{ data := #[105, 110, 116] }, { data := #[98, 111, 111, 108] }, { data := #[91, 97, 93] }, { data := #[105, 110, 116, 32, 45, 62, 32, 105, 110, 116, 32, 45, 62, 32, 105, 110, 116] }, { data := #[91, 97, 93, 32, 45, 62, 32, 97] }]
def trS : Nat → Nat → ByteArray × Nat
  | 0, n => (lvL.getD (n % 5) { data := #[] }, n + 1)
  | d + 1, n => ({ data := #[40] } ++ (trS d n).1 ++ { data := #[44, 32] } ++ (trS d (trS d n).2).1 ++ { data := #[41] }, (trS d (trS d n).2).2)
def trB : Nat → List Bool → Nat → ByteArray × Nat
  | 0, _, n => (lvT.getD (n % 5) { data := #[] }, n + 1)
  | d + 1, l, n => (if l.headD false then (trB d l.tail (trB d l.tail n).2).1 else (trB d l.tail n).1, (trB d l.tail (trB d l.tail n).2).2)
def wrB (s : ByteArray) : List Bool → ByteArray
  | [] => s
  | b :: l => wrB ((if b then { data := #[115, 110, 100] } else { data := #[102, 115, 116] }) ++ { data := #[32, 40] } ++ s ++ { data := #[41] }) l
def odd (c : Int) : Bool := decide (c % 2 = 1)
def bits (p : ByteArray) (d : Nat) : List Bool := (List.range d).map fun k => odd (chr p k)
def allB : Nat → List (List Bool)
  | 0 => [[]]
  | d + 1 => (allB d).map (false :: ·) ++ (allB d).map (true :: ·)
theorem allB_mem : ∀ (l : List Bool), l ∈ allB l.length
  | [] => by simp [allB]
  | b :: l => by
    have := allB_mem l
    cases b <;> simp [allB, this]
def paOk (d : Nat) (l : List Bool) : Bool := match inferF false 6 (wrB (trS d 0).1 l) envS with
  | some (.txt t) => bq t (trB d l 0).1
  | _ => false
theorem pa_all : ((List.range 4).all fun d => (allB d).all (paOk d)) = true := by kernel_rfl
theorem pa_at {d : Nat} (h : d < 4) {l : List Bool} (hl : l.length = d) : inferF false 6 (wrB (trS d 0).1 l) envS = some (.txt (trB d l 0).1) := by
  have h1 := List.all_eq_true.1 pa_all d (by simpa using h)
  have h2 := List.all_eq_true.1 h1 l (by have := allB_mem l; rwa [hl] at this)
  unfold paOk at h2
  split at h2
  · rename_i t ht
    rw [ht, bq_iff.1 h2]
  · cases h2
def rst (p : ByteArray) : ByteArray := if 1 < p.size then p.extract 1 p.size else { data := #[] }
def trT : Nat → ByteArray → Nat → ByteArray × Nat
  | 0, _, n => (lvT.getD (n % 5) { data := #[] }, n + 1)
  | d + 1, p, n => (if 0 < p.size ∧ odd (chr p 0) = true then (trT d (rst p) (trT d (rst p) n).2).1 else (trT d (rst p) n).1, (trT d (rst p) (trT d (rst p) n).2).2)
theorem trT_bits : ∀ (d : Nat) (p : ByteArray) (n : Nat), d ≤ p.size → trT d p n = trB d (bits p d) n
  | 0, _, _, _ => rfl
  | d + 1, p, n, h => by
    have e : (bits p (d + 1)).headD false = odd (chr p 0) := by simp [bits, List.range_succ_eq_map]
    have et : (bits p (d + 1)).tail = bits (rst p) d := by
      cases d with
      | zero => simp [bits]
      | succ d =>
        have hr : rst p = p.extract 1 p.size := by unfold rst; rw [if_pos (by omega)]
        simp only [bits, List.range_succ_eq_map, List.map_cons, List.tail_cons, List.map_map]
        rw [hr]
        congr 1
        · rw [chr_rest p 1 0 (by omega)]
        · apply List.map_congr_left
          intro k _
          show odd (chr p (k + 1 + 1)) = odd (chr (p.extract 1 p.size) (k + 1))
          rw [chr_rest p 1 (k + 1) (by omega)]
          congr 2
          omega
    have hs : d ≤ (rst p).size := by
      cases d with
      | zero => omega
      | succ d =>
        unfold rst
        rw [if_pos (by omega), ByteArray.size_extract]
        omega
    have ih := trT_bits d (rst p)
    simp only [trT, trB, e, et, ih _ hs]
    have h0 : 0 < p.size := by omega
    cases odd (chr p 0) <;> simp [h0]
end Go.Proofs.YtleenphlgbklmaaGreatDoor

namespace Go.Proofs.YtleenphlgbklmaaGreatDoor
open Go.RowKit

theorem has_txt {A : Nat → Addr} {s t : ByteArray} (h : inferF false 6 s envS = some (.txt t)) (W : World) (hG : Glb A W) : Calls Tryz.prog 33 #[.string s, .string t] W fun e w' => e = .returned (.bool true) ∧ Kept W w' := by
  have h2 := ki_hi (rk := false) (o := .txt t) W hG h trivial (fun z => by cases z) (fun z => by cases z)
  exact khas_sx t (kinfer_sx (t := t) (what := 0) (loc := 0) (ss := { data := #[] }) h2) rfl rfl
end Go.Proofs.YtleenphlgbklmaaGreatDoor

namespace Go.Proofs.YtleenphlgbklmaaGreatDoor
open Go.RowKit

theorem trS_n : ∀ d n, (trS d n).2 = n + 2 ^ d
  | 0, n => rfl
  | d + 1, n => by
    simp only [trS, trS_n d]
    rw [Nat.pow_succ]
    omega
theorem trT_n : ∀ d p n, (trT d p n).2 = n + 2 ^ d
  | 0, p, n => rfl
  | d + 1, p, n => by
    simp only [trT, trT_n d]
    rw [Nat.pow_succ]
    omega
theorem lvL_size (k : Nat) (h : k < 5) : (lvL.getD k { data := #[] }).size ≤ 4 := by
  match k, h with
  | 0, _ => decide
  | 1, _ => decide
  | 2, _ => decide
  | 3, _ => decide
  | 4, _ => decide
theorem trS_size : ∀ d n, (trS d n).1.size + 4 ≤ 8 * 2 ^ d
  | 0, n => by
    have := lvL_size (n % 5) (Nat.mod_lt _ (by omega))
    show (lvL.getD (n % 5) { data := #[] }).size + 4 ≤ 8
    omega
  | d + 1, n => by
    have h1 := trS_size d n
    have h2 := trS_size d (trS d n).2
    simp only [trS, ByteArray.size_append]
    rw [Nat.pow_succ]
    show 1 + _ + 2 + _ + 1 + 4 ≤ _
    omega
/-- what lies below stands; but for one block. -/
structure Ko (nb : Nat) (w w' : World) : Prop where
  os : w'.os = w.os
  output : w'.output = w.output
  size : w.heap.size ≤ w'.heap.size
  blk : ∀ k o, k ≠ nb → w.heap[k]? = some o → w'.heap[k]? = some o
theorem Ko.trans {nb : Nat} {a b c : World} (h : Ko nb a b) (g : Ko nb b c) : Ko nb a c := ⟨g.os.trans h.os, g.output.trans h.output, Nat.le_trans h.size g.size, fun k o hk ho => g.blk k o hk (h.blk k o hk ho)⟩
theorem Ko.of {nb : Nat} {a b : World} (h : Kept a b) : Ko nb a b := ⟨h.os, h.output, h.size, fun _ _ _ ho => h.blk ho⟩
theorem Ko.set {nb : Nat} (w : World) (v : Value) : Ko nb w (w.setCell ⟨nb, 0, none⟩ v) := ⟨rfl, rfl, by simp, fun k o hk ho => (Below.heap_setCell _ _ _ k hk).trans ho⟩
structure TF (w : World) (nb g1 g2 n : Nat) : Prop where
  nv : w.heap[nb]? = some (.cells #[.int .i64 n] 3 (0, 0))
  lv : w.heap[g1]? = some (.cells (lvL.map Value.string).toArray 9 (0, 0))
  tv : w.heap[g2]? = some (.cells (lvT.map Value.string).toArray 9 (0, 0))
set_option maxRecDepth 20000 in
set_option maxHeartbeats 4000000 in
theorem tree_zero (p : ByteArray) (n : Nat) (hn : n ≤ 1000) (w : World) (nb g1 g2 : Nat) (h : TF w nb g1 g2 n) :
    Calls Tryz.prog 34 #[.int .i64 0, .string p, .pointer (some ⟨nb, 0, none⟩), .slice (some ⟨g1, 0, none⟩) 5 5, .slice (some ⟨g2, 0, none⟩) 5 5] w fun e w' => e = .returned (.tuple #[.string (trS 0 n).1, .string (trT 0 p n).1]) ∧ w'.heap[nb]? = some (.cells #[.int .i64 (n + 1 : Nat)] 3 (0, 0)) ∧ Ko nb w w' := by
  have hm : Int.tmod (n : Int) 5 = ((n % 5 : Nat) : Int) := by rw [Int.tmod_eq_emod_of_nonneg (by omega)]; omega
  have hl : n % 5 < 5 := Nat.mod_lt _ (by omega)
  have c0 : w.cell? ⟨nb, 0, none⟩ = some (.int .i64 n) := by simp [World.cell?, h.nv]
  have f0 : w.frozen? ⟨nb, 0, none⟩ = false := by simp [World.frozen?, h.nv]
  have hn1 : ¬ g1 = nb := fun z => by have := h.lv; rw [z, h.nv] at this; simp at this
  have hn2 : ¬ g2 = nb := fun z => by have := h.tv; rw [z, h.nv] at this; simp at this
  have hK : Ko nb w (w.setCell ⟨nb, 0, none⟩ (.int .i64 ((n : Int) + 1))) := Ko.set w _
  have hnv : (w.setCell ⟨nb, 0, none⟩ (.int .i64 ((n : Int) + 1))).heap[nb]? = some (.cells #[.int .i64 ((n : Int) + 1)] 3 (0, 0)) := by simp [World.setCell, h.nv, Array.getElem?_modify]
  go_enter Tryz.func34, Tryz.ntmps34
  go_wp2_with fail
  rw [show (n : Int) % 5 = ((n % 5 : Nat) : Int) by omega]
  generalize w.setCell ⟨nb, 0, none⟩ (.int .i64 ((n : Int) + 1)) = V at *
  have hlv := (Kept.drew V).blk (hK.blk g1 _ hn1 h.lv)
  have htv := (Kept.drew V).blk (hK.blk g2 _ hn2 h.tv)
  have HF : Hid (V.drew.heap[nb]? = some (.cells #[.int .i64 (n + 1 : Nat)] 3 (0, 0)) ∧ Ko nb w V.drew) := ⟨(Kept.drew V).blk hnv, hK.trans (Ko.of (Kept.drew V))⟩
  have HE : Hid ((trS 0 n).1 = lvL.getD (n % 5) { data := #[] } ∧ (trT 0 p n).1 = lvT.getD (n % 5) { data := #[] }) := ⟨rfl, rfl⟩
  generalize n % 5 = m at *
  have d1 : V.drew.cell? ⟨g1, m, none⟩ = some (.string (lvL.getD m { data := #[] })) := by
    simp only [World.cell?, hlv, List.getElem?_toArray, List.getElem?_map, List.getD]
    have : m < lvL.length := hl
    simp [this]
  have d2 : V.drew.cell? ⟨g2, m, none⟩ = some (.string (lvT.getD m { data := #[] })) := by
    simp only [World.cell?, htv, List.getElem?_toArray, List.getElem?_map, List.getD]
    have : m < lvT.length := hl
    simp [this]
  generalize lvL.getD m { data := #[] } = a at *
  generalize lvT.getD m { data := #[] } = b at *
  have hm0 : (0 : Int) ≤ (m : Int) := by omega
  have hm5 : (m : Int) < 5 := by omega
  clear hlv htv hK hnv h hm c0 f0
  go_region_held3 (fun w' => w'.cell? ⟨g1, m, none⟩ = some (.string a) ∧ w'.cell? ⟨g2, m, none⟩ = some (.string b)) (go_keep) (fail)
  all_goals
    go_wp2
    exact bodyPost_ret (results_tmp2 Tryz.results34 _ _ _) rfl ⟨by rw [HE.out.1, HE.out.2]; rfl, HF.out⟩
theorem rst_size (p : ByteArray) (hp : p.size ≤ 6) : (rst p).size ≤ 6 := by
  unfold rst
  split
  · rw [ByteArray.size_extract]; omega
  · exact Nat.zero_le _
def STr (d : Nat) : Prop := ∀ (p : ByteArray) (n : Nat), p.size ≤ 6 → n + 2 ^ d ≤ 100 → ∀ (w : World) (nb g1 g2 : Nat), TF w nb g1 g2 n →
    Calls Tryz.prog 34 #[.int .i64 d, .string p, .pointer (some ⟨nb, 0, none⟩), .slice (some ⟨g1, 0, none⟩) 5 5, .slice (some ⟨g2, 0, none⟩) 5 5] w fun e w' => e = .returned (.tuple #[.string (trS d n).1, .string (trT d p n).1]) ∧ TF w' nb g1 g2 (n + 2 ^ d) ∧ Ko nb w w'
theorem TF.ko {w w' : World} {nb g1 g2 n m : Nat} (h : TF w nb g1 g2 n) (k : Ko nb w w') (hv : w'.heap[nb]? = some (.cells #[.int .i64 m] 3 (0, 0))) : TF w' nb g1 g2 m :=
  ⟨hv, k.blk _ _ (fun z => by have := h.lv; rw [z, h.nv] at this; simp at this) h.lv, k.blk _ _ (fun z => by have := h.tv; rw [z, h.nv] at this; simp at this) h.tv⟩
set_option maxRecDepth 20000 in
set_option maxHeartbeats 4000000 in
theorem tree_succ (d : Nat) (hd : d ≤ 2) (ih : STr d) : STr (d + 1) := by
  intro p n hp hn w nb g1 g2 h
  have h2 : 2 ^ d ≤ 4 := by
    have : 2 ^ d ≤ 2 ^ 2 := Nat.pow_le_pow_right (by omega) hd
    omega
  rw [Nat.pow_succ] at hn
  have HA : Hid (Calls Tryz.prog 34 #[.int .i64 d, .string (rst p), .pointer (some ⟨nb, 0, none⟩), .slice (some ⟨g1, 0, none⟩) 5 5, .slice (some ⟨g2, 0, none⟩) 5 5] w fun e w' => e = .returned (.tuple #[.string (trS d (n)).1, .string (trT d (rst p) (n)).1]) ∧ TF w' nb g1 g2 (n + 2 ^ d) ∧ Ko nb w w') := ih (rst p) n (rst_size p hp) (by omega) w nb g1 g2 h
  have HB : Hid (∀ w1, TF w1 nb g1 g2 (n + 2 ^ d) → Calls Tryz.prog 34 #[.int .i64 d, .string (rst p), .pointer (some ⟨nb, 0, none⟩), .slice (some ⟨g1, 0, none⟩) 5 5, .slice (some ⟨g2, 0, none⟩) 5 5] w1 fun e w' => e = .returned (.tuple #[.string (trS d (n + 2 ^ d)).1, .string (trT d (rst p) (n + 2 ^ d)).1]) ∧ TF w' nb g1 g2 (n + 2 ^ d + 2 ^ d) ∧ Ko nb w1 w') := fun w1 h1 => ih (rst p) (n + 2 ^ d) (rst_size p hp) (by omega) w1 nb g1 g2 h1
  have z1 := trS_size d n
  have z2 := trS_size d (n + 2 ^ d)
  have HS : Hid ((trS (d + 1) n).1 = { data := #[40] } ++ (trS d n).1 ++ { data := #[44, 32] } ++ (trS d (n + 2 ^ d)).1 ++ { data := #[41] }) := by
    show (trS (d + 1) n).1 = _
    simp only [trS, trS_n]
  have HT : Hid ((trT (d + 1) p n).1 = if 0 < p.size ∧ odd (chr p 0) = true then (trT d (rst p) (n + 2 ^ d)).1 else (trT d (rst p) n).1) := by
    show (trT (d + 1) p n).1 = _
    simp only [trT, trT_n]
  have HN : Hid (n + 2 ^ d + 2 ^ d = n + 2 ^ (d + 1)) := by show _ = _; rw [Nat.pow_succ]; omega
  generalize (trS d n).1 = s1 at *
  generalize (trS d (n + 2 ^ d)).1 = s2 at *
  generalize (trT d (rst p) n).1 = t1 at *
  generalize (trT d (rst p) (n + 2 ^ d)).1 = t2 at *
  have hz1 : s1.size ≤ 32 := by omega
  have hz2 : s2.size ≤ 32 := by omega
  have hdi : ((d + 1 : Nat) : Int) - 1 = d := by omega
  have hd0 : ¬ ((d + 1 : Nat) : Int) = 0 := by omega
  clear z1 z2 h ih h2
  by_cases hp1 : 1 < p.size
  · have er : rst p = p.extract 1 p.size := by unfold rst; rw [if_pos hp1]
    rw [er] at HA HB
    have hp0 : 0 < p.size := by omega
    have hc : ((p[0]'hp0).toNat : Int) = chr p 0 := by simp [chr, hp0]
    have hcr := chr_range p 0
    have hm : Int.tmod (chr p 0) 2 = chr p 0 % 2 := Int.tmod_eq_emod_of_nonneg hcr.1
    cases ho : odd (chr p 0) with
    | true =>
      have hod : chr p 0 % 2 = 1 := by simpa [odd] using ho
      have HC : Hid (0 < p.size ∧ odd (chr p 0) = true) := ⟨hp0, ho⟩
      clear ho er
      go_enter Tryz.func34, Tryz.ntmps34
      go_wp2_with fail
      refine Calls.mono HA.out ?_
      rintro e w1 ⟨rfl, hf1, hk1⟩
      have HB1 : Hid _ := HB.out w1 hf1
      have HK1 : Hid _ := hk1
      clear HA HB hf1 hk1
      go_wp2_with fail
      refine Calls.mono HB1.out ?_
      rintro e w2 ⟨rfl, hf2, hk2⟩
      rw [HN.out] at hf2
      have HF : Hid _ := And.intro hf2 (HK1.out.trans hk2)
      clear hf2 hk2 HB1 HK1
      go_wp2
      exact bodyPost_ret (results_tmp2 Tryz.results34 _ _ _) rfl ⟨by rw [HS.out, HT.out, if_pos HC.out]; rfl, HF.out⟩
    | false =>
      have hod : ¬ chr p 0 % 2 = 1 := by simpa [odd] using ho
      have HC : Hid (¬ (0 < p.size ∧ odd (chr p 0) = true)) := fun z => by rw [ho] at z; exact Bool.noConfusion z.2
      clear ho er
      go_enter Tryz.func34, Tryz.ntmps34
      go_wp2_with fail
      refine Calls.mono HA.out ?_
      rintro e w1 ⟨rfl, hf1, hk1⟩
      have HB1 : Hid _ := HB.out w1 hf1
      have HK1 : Hid _ := hk1
      clear HA HB hf1 hk1
      go_wp2_with fail
      refine Calls.mono HB1.out ?_
      rintro e w2 ⟨rfl, hf2, hk2⟩
      rw [HN.out] at hf2
      have HF : Hid _ := And.intro hf2 (HK1.out.trans hk2)
      clear hf2 hk2 HB1 HK1
      go_wp2
      exact bodyPost_ret (results_tmp2 Tryz.results34 _ _ _) rfl ⟨by rw [HS.out, HT.out, if_neg HC.out]; rfl, HF.out⟩
  · have er : rst p = { data := #[] } := by unfold rst; rw [if_neg hp1]
    rw [er] at HA HB
    by_cases hp0 : 0 < p.size
    · have hc : ((p[0]'hp0).toNat : Int) = chr p 0 := by simp [chr, hp0]
      have hcr := chr_range p 0
      have hm : Int.tmod (chr p 0) 2 = chr p 0 % 2 := Int.tmod_eq_emod_of_nonneg hcr.1
      cases ho : odd (chr p 0) with
      | true =>
        have hod : chr p 0 % 2 = 1 := by simpa [odd] using ho
        have HC : Hid (0 < p.size ∧ odd (chr p 0) = true) := ⟨hp0, ho⟩
        clear ho er
        go_enter Tryz.func34, Tryz.ntmps34
        go_wp2_with fail
        refine Calls.mono HA.out ?_
        rintro e w1 ⟨rfl, hf1, hk1⟩
        have HB1 : Hid _ := HB.out w1 hf1
        have HK1 : Hid _ := hk1
        clear HA HB hf1 hk1
        go_wp2_with fail
        refine Calls.mono HB1.out ?_
        rintro e w2 ⟨rfl, hf2, hk2⟩
        rw [HN.out] at hf2
        have HF : Hid _ := And.intro hf2 (HK1.out.trans hk2)
        clear hf2 hk2 HB1 HK1
        go_wp2
        exact bodyPost_ret (results_tmp2 Tryz.results34 _ _ _) rfl ⟨by rw [HS.out, HT.out, if_pos HC.out]; rfl, HF.out⟩
      | false =>
        have hod : ¬ chr p 0 % 2 = 1 := by simpa [odd] using ho
        have HC : Hid (¬ (0 < p.size ∧ odd (chr p 0) = true)) := fun z => by rw [ho] at z; exact Bool.noConfusion z.2
        clear ho er
        go_enter Tryz.func34, Tryz.ntmps34
        go_wp2_with fail
        refine Calls.mono HA.out ?_
        rintro e w1 ⟨rfl, hf1, hk1⟩
        have HB1 : Hid _ := HB.out w1 hf1
        have HK1 : Hid _ := hk1
        clear HA HB hf1 hk1
        go_wp2_with fail
        refine Calls.mono HB1.out ?_
        rintro e w2 ⟨rfl, hf2, hk2⟩
        rw [HN.out] at hf2
        have HF : Hid _ := And.intro hf2 (HK1.out.trans hk2)
        clear hf2 hk2 HB1 HK1
        go_wp2
        exact bodyPost_ret (results_tmp2 Tryz.results34 _ _ _) rfl ⟨by rw [HS.out, HT.out, if_neg HC.out]; rfl, HF.out⟩
    · have HC : Hid (¬ (0 < p.size ∧ odd (chr p 0) = true)) := fun z => hp0 z.1
      clear er
      go_enter Tryz.func34, Tryz.ntmps34
      go_wp2_with fail
      refine Calls.mono HA.out ?_
      rintro e w1 ⟨rfl, hf1, hk1⟩
      have HB1 : Hid _ := HB.out w1 hf1
      have HK1 : Hid _ := hk1
      clear HA HB hf1 hk1
      go_wp2_with fail
      refine Calls.mono HB1.out ?_
      rintro e w2 ⟨rfl, hf2, hk2⟩
      rw [HN.out] at hf2
      have HF : Hid _ := And.intro hf2 (HK1.out.trans hk2)
      clear hf2 hk2 HB1 HK1
      go_wp2
      exact bodyPost_ret (results_tmp2 Tryz.results34 _ _ _) rfl ⟨by rw [HS.out, HT.out, if_neg HC.out]; rfl, HF.out⟩
theorem tree_any (d : Nat) (hd : d ≤ 3) : STr d := by
  induction d with
  | zero =>
    intro p n hp hn w nb g1 g2 h
    refine (tree_zero p n (by omega) w nb g1 g2 h).mono ?_
    rintro e w' ⟨rfl, h1, h2⟩
    exact ⟨rfl, h.ko h2 h1, h2⟩
  | succ d ih => exact tree_succ d (by omega) (ih (by omega))
end Go.Proofs.YtleenphlgbklmaaGreatDoor

namespace Go.Proofs.YtleenphlgbklmaaGreatDoor
open Go.RowKit

def wr1 (b : Bool) (s : ByteArray) : ByteArray := (if b then { data := #[115, 110, 100] } else { data := #[102, 115, 116] }) ++ { data := #[32, 40] } ++ s ++ { data := #[41] }
theorem wrB_snoc (b : Bool) : ∀ (l : List Bool) (s : ByteArray), wrB s (l ++ [b]) = wr1 b (wrB s l)
  | [], s => rfl
  | c :: l, s => by
    show wrB _ (l ++ [b]) = _
    rw [wrB_snoc b l]
    rfl
theorem wr1_size (b : Bool) (s : ByteArray) : (wr1 b s).size = s.size + 6 := by
  unfold wr1
  rw [ByteArray.size_append, ByteArray.size_append, ByteArray.size_append]
  cases b
  · show 3 + 2 + s.size + 1 = _
    omega
  · show 3 + 2 + s.size + 1 = _
    omega
theorem bits_snoc (p : ByteArray) (k : Nat) : bits p (k + 1) = bits p k ++ [odd (chr p k)] := by simp [bits, List.range_succ]
theorem bits_len (p : ByteArray) (k : Nat) : (bits p k).length = k := by simp [bits]
theorem wrB_size (p s : ByteArray) : ∀ k, (wrB s (bits p k)).size = s.size + 6 * k
  | 0 => rfl
  | k + 1 => by
    rw [bits_snoc, wrB_snoc, wr1_size, wrB_size p s k]
    omega
theorem Kept.ofKo {nb : Nat} {w W V : World} (h : Kept w W) (hn : w.heap.size ≤ nb) (k : Ko nb W V) : Kept w V :=
  ⟨k.os.trans h.os, k.output.trans h.output, Nat.le_trans h.size k.size, fun i hi => by
    have e := h.block i hi
    rw [← e]
    have hi2 : i < W.heap.size := Nat.lt_of_lt_of_le hi h.size
    have hs : W.heap[i]? = some W.heap[i] := by simp [hi2]
    rw [hs]
    exact k.blk i _ (by omega) hs⟩
theorem tree_at {d : Nat} (hd : d < 4) (p : ByteArray) (hp : p.size ≤ 6) (w : World) :
    Calls Tryz.prog 34 #[.int .i64 d, .string p, .pointer (some ⟨w.heap.size + 1 + 1, 0, none⟩), .slice (some ⟨w.heap.size, 0, none⟩) 5 5, .slice (some ⟨w.heap.size + 1, 0, none⟩) 5 5] (((w.alloc (.cells (lvL.map Value.string).toArray 9 (0, 0))).alloc (.cells (lvT.map Value.string).toArray 9 (0, 0))).alloc (.cells #[.int .i64 0] 3 (0, 0))) fun e w' => e = .returned (.tuple #[.string (trS d 0).1, .string (trT d p 0).1]) ∧ Kept w w' := by
  have h2 : 2 ^ d ≤ 8 := Nat.pow_le_pow_right (by omega) (show d ≤ 3 by omega)
  have hF : TF (((w.alloc (.cells (lvL.map Value.string).toArray 9 (0, 0))).alloc (.cells (lvT.map Value.string).toArray 9 (0, 0))).alloc (.cells #[.int .i64 0] 3 (0, 0))) (w.heap.size + 1 + 1) w.heap.size (w.heap.size + 1) 0 :=
    ⟨by have := heap_alloc_new ((w.alloc (.cells (lvL.map Value.string).toArray 9 (0, 0))).alloc (.cells (lvT.map Value.string).toArray 9 (0, 0))) (.cells #[.int .i64 0] 3 (0, 0)); simpa using this, (Kept.alloc _ _).blk ((Kept.alloc _ _).blk (heap_alloc_new _ _)), (Kept.alloc _ _).blk (by have := heap_alloc_new (w.alloc (.cells (lvL.map Value.string).toArray 9 (0, 0))) (.cells (lvT.map Value.string).toArray 9 (0, 0)); simpa using this)⟩
  refine (tree_any d (by omega) p 0 hp (by omega) _ _ _ _ hF).mono ?_
  rintro e w' ⟨rfl, _, hk⟩
  exact ⟨rfl, Kept.ofKo (((Kept.alloc _ _).trans (Kept.alloc _ _)).trans (Kept.alloc _ _)) (by omega) hk⟩
set_option maxRecDepth 20000 in
set_option maxHeartbeats 4000000 in
theorem path_any {A : Nat → Addr} (path : ByteArray) (c : Int) (w : World) (hG : Glb A w) (hs : path.size ≤ 9223372036854775807) (h1 : -9223372036854775808 ≤ c) (h2 : c ≤ 9223372036854775807) : Calls Tryz.prog 12 #[.string path, .int .i64 c] w fun e w' => e = .returned (.bool true) ∧ Kept w w' := by
  obtain ⟨d, hk, hd⟩ : ∃ d : Nat, pickI c 4 = d ∧ d < 4 := by
    have := pickI_lt c 4 (by omega)
    exact ⟨(pickI c 4).toNat, by omega, by omega⟩
  have HP : Hid (∀ W, Calls Tryz.prog 32 #[.int .i64 c, .int .i64 4] W fun e w' => e = .returned (.int .i64 d) ∧ w' = W) := fun W => by
    have := pick_sx c 4 W h1 h2 (by omega) (by omega)
    rwa [hk] at this
  have HG : Hid _ := hG
  have hmin : min (path.size : Int) 6 = ((min path.size 6 : Nat) : Int) := by omega
  clear hk h1 h2 hG
  go_enter Tryz.func12, Tryz.ntmps12
  go_wp2_with fail
  refine Calls.mono (HP.out _) ?_
  rintro e w' ⟨rfl, hww⟩
  rw [hww]
  clear hww w' HP
  have hp6 : (path.extract 0 (min path.size 6)).size ≤ 6 := by rw [ByteArray.size_extract]; omega
  go_wp2_with fail
  generalize path.extract 0 (min path.size 6) = p at *
  refine Calls.mono (tree_at hd p hp6 w) ?_
  rintro e w1 ⟨rfl, hk1⟩
  have HK : Hid _ := hk1
  have HG1 : Hid _ := HG.out.kept hk1
  have hts := trS_size d 0
  have h28 : 2 ^ d ≤ 8 := Nat.pow_le_pow_right (by omega) (show d ≤ 3 by omega)
  have hsz := wrB_size p (trS d 0).1
  have HH : Hid (d ≤ p.size → Calls Tryz.prog 33 #[.string (wrB (trS d 0).1 (bits p d)), .string (trT d p 0).1] w1 fun e w' => e = .returned (.bool true) ∧ Kept w1 w') := fun h => by
    rw [trT_bits d p 0 h]
    exact has_txt (pa_at hd (bits_len p d)) w1 HG1.out
  generalize (trS d 0).1 = S at *
  generalize (trT d p 0).1 = T at *
  clear hk1 HG HG1
  go_wp2_with fail
  go_loopw [8, 10] (fun s i wr => ∃ q : Nat, q ≤ d ∧ q ≤ p.size ∧ i = .int .i64 q ∧ s = .string (wrB S (bits p q)) ∧ wr = w1) (fun _ i _ => d - (intOf i).toNat)
  case atStart => exact ⟨0, Nat.zero_le _, Nat.zero_le _, rfl, rfl, rfl⟩
  case round =>
    obtain ⟨q, hq, hqp, rfl, rfl, hw⟩ := hrel
    rw [hw]
    clear hw
    have hz := hsz q
    have HE : Hid (wrB S (bits p (q + 1)) = wr1 (odd (chr p q)) (wrB S (bits p q))) := by show wrB S (bits p (q + 1)) = _; rw [bits_snoc, wrB_snoc]
    by_cases hlp : q < p.size
    · by_cases hlt : q < d
      · have hc : ((p[q]'hlp).toNat : Int) = chr p q := by simp [chr, hlp]
        have hcr := chr_range p q
        have hm : Int.tmod (chr p q) 2 = chr p q % 2 := Int.tmod_eq_emod_of_nonneg hcr.1
        generalize wrB S (bits p q) = sq at *
        clear hmin hs HH
        cases ho : odd (chr p q) with
        | true =>
          rw [ho] at HE
          have hod : chr p q % 2 = 1 := by simpa [odd] using ho
          clear ho
          go_wp2
          go_roundw
          case measure => simp [intOf]; omega
          case rel => exact ⟨q + 1, hlt, hlp, by go_num, by rw [HE.out]; rfl, trivial⟩
        | false =>
          rw [ho] at HE
          have hod : ¬ chr p q % 2 = 1 := by simpa [odd] using ho
          clear ho
          go_wp2
          go_roundw
          case measure => simp [intOf]; omega
          case rel => exact ⟨q + 1, hlt, hlp, by go_num, by rw [HE.out]; rfl, trivial⟩
      · obtain rfl : q = d := by omega
        have HC : Hid _ := HH.out hqp
        have hz3 : (wrB S (bits p q)).size ≤ 300 := by omega
        generalize wrB S (bits p q) = sq at *
        have hgt : ¬ ((p.size : Int) < (q : Int)) := by omega
        clear HE HH hsz hts h28 hz
        go_wp2_with fail
        refine Calls.mono HC.out ?_
        rintro e w' ⟨rfl, hk⟩
        have HK2 : Hid _ := HK.out.trans hk
        clear hk HC
        go_wp2
        go_ret
        exact ⟨rfl, HK2.out⟩
    · obtain rfl : q = p.size := by omega
      clear HE
      by_cases hgt : p.size < d
      · clear HH hsz hts h28
        go_wp2
        go_ret
        exact ⟨rfl, HK.out⟩
      · obtain hde : d = p.size := by omega
        have HC : Hid _ := HH.out (by omega)
        have hz3 : (wrB S (bits p d)).size ≤ 300 := by rw [hsz]; omega
        rw [← hde]
        generalize wrB S (bits p d) = sq at *
        have hgt2 : ¬ ((p.size : Int) < (d : Int)) := by omega
        clear HH hsz hts h28 hz
        go_wp2_with fail
        refine Calls.mono HC.out ?_
        rintro e w' ⟨rfl, hk⟩
        have HK2 : Hid _ := HK.out.trans hk
        clear hk HC
        go_wp2
        go_ret
        exact ⟨rfl, HK2.out⟩
end Go.Proofs.YtleenphlgbklmaaGreatDoor
