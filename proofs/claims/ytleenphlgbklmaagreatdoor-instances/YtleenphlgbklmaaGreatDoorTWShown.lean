import Derived.Test.YtleenphlgbklmaaGreatDoorTTGood
import Derived.Deep.RegionWith
set_option linter.unusedVariables false
set_option linter.unusedSimpArgs false
namespace Go.Proofs.YtleenphlgbklmaaGreatDoor
open Go.RowKit

def Ty.kind : Ty → ByteArray | .mk k _ _ => k
def brkT (b : Bool) (a : ByteArray) : ByteArray := if b then { data := #[40] } ++ a ++ { data := #[41] } else a
mutual
def shT (names : List ByteArray) : Ty → ByteArray
  | .mk kd n kids =>
    if kd.data.toList == [] then names.getD n { data := #[] }
    else if kd.data.toList == ({ data := #[108, 105, 115, 116] } : ByteArray).data.toList then { data := #[91] } ++ (shTs names kids).getD 0 { data := #[] } ++ { data := #[93] }
    else if kd.data.toList == ({ data := #[112, 97, 105, 114] } : ByteArray).data.toList then { data := #[40] } ++ (shTs names kids).getD 0 { data := #[] } ++ { data := #[44, 32] } ++ (shTs names kids).getD 1 { data := #[] } ++ { data := #[41] }
    else if kd.data.toList == ({ data := #[102, 117, 110] } : ByteArray).data.toList then brkT ((kids.getD 0 Ty.no).kind.data.toList == ({ data := #[102, 117, 110] } : ByteArray).data.toList) ((shTs names kids).getD 0 { data := #[] }) ++ { data := #[32, 45, 62, 32] } ++ (shTs names kids).getD 1 { data := #[] }
    else kd
def shTs (names : List ByteArray) : List Ty → List ByteArray
  | [] => []
  | t :: ts => shT names t :: shTs names ts
end
section
variable (names : List ByteArray) (a b : Ty)
theorem shT_var (n : Nat) : shT names (.mk { data := #[] } n []) = names.getD n { data := #[] } := by simp [shT]
theorem shT_int : shT names (.mk { data := #[105, 110, 116] } 0 []) = { data := #[105, 110, 116] } := by simp [shT]
theorem shT_bool : shT names (.mk { data := #[98, 111, 111, 108] } 0 []) = { data := #[98, 111, 111, 108] } := by simp [shT]
theorem shT_list : shT names (.mk { data := #[108, 105, 115, 116] } 0 [a]) = { data := #[91] } ++ shT names a ++ { data := #[93] } := by simp [shT, shTs]
theorem shT_pair : shT names (.mk { data := #[112, 97, 105, 114] } 0 [a, b]) = { data := #[40] } ++ shT names a ++ { data := #[44, 32] } ++ shT names b ++ { data := #[41] } := by simp [shT, shTs]
theorem shT_fn : shT names (.mk { data := #[102, 117, 110] } 0 [a, b]) = brkT (a.kind.data.toList == ({ data := #[102, 117, 110] } : ByteArray).data.toList) (shT names a) ++ { data := #[32, 45, 62, 32] } ++ shT names b := by simp [shT, shTs]
end
theorem brkT_size (b : Bool) (a : ByteArray) : (brkT b a).size ≤ a.size + 2 := by
  unfold brkT
  split
  · simp only [ByteArray.size_append]
    have h1 : ({ data := #[40] } : ByteArray).size = 1 := rfl
    have h2 : ({ data := #[41] } : ByteArray).size = 1 := rfl
    omega
  · omega
theorem shT_size (names : List ByteArray) (M : Nat) (hM : 4 ≤ M) (hn : ∀ m, m ∈ names → m.size ≤ M) {t : Ty} (h : WT names.length t) : (shT names t).size ≤ (M + 6) * sz t := by
  induction h with
  | var n hn2 =>
    rw [shT_var]
    have : names.getD n { data := #[] } ∈ names := by simp [List.getD, hn2]
    have := hn _ this
    simp only [sz, szs]; omega
  | int => rw [shT_int]; have : ({ data := #[105, 110, 116] } : ByteArray).size = 3 := rfl; simp only [sz, szs]; omega
  | bool => rw [shT_bool]; have : ({ data := #[98, 111, 111, 108] } : ByteArray).size = 4 := rfl; simp only [sz, szs]; omega
  | list a _ ih =>
    rw [shT_list]
    simp only [ByteArray.size_append, sz, szs, Nat.mul_add]
    have h1 : ({ data := #[91] } : ByteArray).size = 1 := rfl
    have h2 : ({ data := #[93] } : ByteArray).size = 1 := rfl
    omega
  | pair a b _ _ ih ih2 =>
    rw [shT_pair]
    simp only [ByteArray.size_append, sz, szs, Nat.mul_add]
    have h1 : ({ data := #[40] } : ByteArray).size = 1 := rfl
    have h2 : ({ data := #[41] } : ByteArray).size = 1 := rfl
    have h3 : ({ data := #[44, 32] } : ByteArray).size = 2 := rfl
    omega
  | fn a b _ _ ih ih2 =>
    rw [shT_fn]
    generalize (a.kind.data.toList == ({ data := #[102, 117, 110] } : ByteArray).data.toList) = q
    have := brkT_size q (shT names a)
    simp only [ByteArray.size_append, sz, szs, Nat.mul_add]
    have h1 : ({ data := #[32, 45, 62, 32] } : ByteArray).size = 4 := rfl
    omega

/-- Shown answers that text, from whatever world in which the type and the names lie. -/
def SShown (names : List ByteArray) (x : Ty) : Prop := ∀ (w : World) (v nv : Value) (B : Nat), TRep w x v → w.ownsRow B 9 1 nv names.length (names.map Value.string) → sz x ≤ 900 →
  Calls Tryz.prog 23 #[v, nv] w fun e w' => e = .returned (.string (shT names x)) ∧ ∃ n, w' = w.drewN n
theorem SShown.at {names : List ByteArray} {x : Ty} (h : SShown names x) {w : World} {v nv : Value} {B : Nat} (hr : TRep w x v) (hn : w.ownsRow B 9 1 nv names.length (names.map Value.string)) (ht : sz x ≤ 900) (n : Nat) : Calls Tryz.prog 23 #[v, nv] (w.drewN n) fun e w' => e = .returned (.string (shT names x)) ∧ ∃ m, w' = (w.drewN n).drewN m :=
  h (w.drewN n) v nv B (TRep.keep (TKeep.drewN _ _) x hr) (ownsRow_same hn (fun _ _ => rfl)) ht
theorem ret_strT {a b : ByteArray} (h : a = b) : Ending.returned (.string a) = .returned (.string b) := by rw [h]

set_option maxRecDepth 20000 in
set_option maxHeartbeats 2000000 in
theorem shown_base (names : List ByteArray) (kd : ByteArray) (h : kd = { data := #[105, 110, 116] } ∨ kd = { data := #[98, 111, 111, 108] }) : SShown names (.mk kd 0 []) := by
  intro w v nv B hr hn _
  simp only [TRep, TReps] at hr
  obtain ⟨b, lv, ps, rfl, h2, h4, rfl⟩ := hr
  obtain ⟨ao, cap, rfl, _⟩ := row_form0 hn
  have c0 : w.cell? ⟨b, 0, none⟩ = some (.string kd) := by simp [World.cell?, h2]
  have e1 : Hid (shT names (.mk kd 0 []) = kd) := by rcases h with rfl | rfl <;> simp [Hid, shT]
  clear h2 h4
  rcases h with rfl | rfl
  all_goals
    go_enter Tryz.func23, Tryz.ntmps23
    go_wp2
    go_ret
    exact ⟨ret_strT e1.out.symm, 0, rfl⟩

set_option maxRecDepth 20000 in
set_option maxHeartbeats 2000000 in
theorem shown_var (names : List ByteArray) (n : Nat) (hn : n < names.length) : SShown names (.mk { data := #[] } n []) := by
  intro w v nv B hr hrow _
  simp only [TRep, TReps] at hr
  obtain ⟨b, lv, ps, rfl, h2, h4, rfl⟩ := hr
  obtain ⟨ao, cap, rfl, hao⟩ := row_form0 hrow
  obtain ⟨g, rfl⟩ := hao (by omega)
  have c0 : w.cell? ⟨b, 0, none⟩ = some (.string { data := #[] }) := by simp [World.cell?, h2]
  have c1 : w.cell? ⟨b, 1, none⟩ = some (.int .i64 n) := by simp [World.cell?, h2]
  have cm : w.cell? ⟨g, n, none⟩ = some (.string (names.getD n { data := #[] })) := by
    have := hrow.cellAt n (by simpa using hn)
    rw [this]
    simp [List.getD, hn]
  have hml := row_max hrow
  have e1 : Hid (shT names (.mk { data := #[] } n []) = names.getD n { data := #[] }) := shT_var names n
  clear h2 h4 hrow hao
  generalize names.getD n { data := #[] } = m at *
  go_enter Tryz.func23, Tryz.ntmps23
  go_wp2
  go_ret
  exact ⟨ret_strT e1.out.symm, 0, rfl⟩

set_option maxRecDepth 20000 in
set_option maxHeartbeats 2000000 in
theorem shown_list (names : List ByteArray) (hM : ∀ m, m ∈ names → m.size ≤ 1000) (a : Ty) (hwa : WT names.length a) (ih : SShown names a) : SShown names (.mk { data := #[108, 105, 115, 116] } 0 [a]) := by
  intro w v nv B hr hrow hsz
  simp only [TRep, TReps] at hr
  obtain ⟨b, lv, ps, rfl, h2, h4, p, qs, rfl, hra, rfl⟩ := hr
  obtain ⟨ao, cap, rfl, _⟩ := row_form0 hrow
  obtain ⟨ao2, cap2, rfl, hrow2⟩ := row_form h4
  obtain ⟨g2, rfl, hc2⟩ := hrow2 0 (by simp)
  have c0 : w.cell? ⟨b, 0, none⟩ = some (.string { data := #[108, 105, 115, 116] }) := by simp [World.cell?, h2]
  have c2 : w.cell? ⟨b, 2, none⟩ = some (.slice (some ⟨g2, 0, none⟩) 1 cap2) := by simp [World.cell?, h2]
  simp at hc2
  simp [sz, szs] at hsz
  have szA := shT_size names 1000 (by omega) hM hwa
  have HA : Hid (∀ n : Nat, Calls Tryz.prog 23 #[p, .slice ao names.length cap] (w.drewN n) fun e w' => e = .returned (.string (shT names a)) ∧ ∃ m, w' = (w.drewN n).drewN m) := ih.at hra hrow (by omega)
  have e1 : Hid (shT names (.mk { data := #[108, 105, 115, 116] } 0 [a]) = { data := #[91] } ++ shT names a ++ { data := #[93] }) := shT_list names a
  have s1 : (shT names a).size ≤ 1000000 := by have : 1006 * sz a ≤ 1006 * 900 := Nat.mul_le_mul_left _ (by omega); omega
  generalize shT names a = ta at *
  clear h2 h4 hrow2 ih hra hwa szA hsz hrow
  go_enter Tryz.func23, Tryz.ntmps23
  go_wp2_with fail
  refine Calls.mono (HA.out 0) ?_
  rintro e w1 ⟨rfl, m1, rfl⟩
  go_wp2
  go_ret
  exact ⟨ret_strT e1.out.symm, _, rfl⟩

set_option maxRecDepth 20000 in
set_option maxHeartbeats 2000000 in
theorem shown_pair (names : List ByteArray) (hM : ∀ m, m ∈ names → m.size ≤ 1000) (a a2 : Ty) (hwa : WT names.length a) (hwa2 : WT names.length a2) (ih : SShown names a) (ih2 : SShown names a2) : SShown names (.mk { data := #[112, 97, 105, 114] } 0 [a, a2]) := by
  intro w v nv B hr hrow hsz
  simp only [TRep, TReps] at hr
  obtain ⟨b, lv, ps, rfl, h2, h4, p, qs, rfl, hra, p2, qs2, rfl, hra2, rfl⟩ := hr
  obtain ⟨ao, cap, rfl, _⟩ := row_form0 hrow
  obtain ⟨ao2, cap2, rfl, hrow2⟩ := row_form h4
  obtain ⟨g2, rfl, hc2⟩ := hrow2 0 (by simp)
  obtain ⟨g2', e, hc3⟩ := hrow2 1 (by simp)
  obtain rfl : g2 = g2' := by injection e with e; injection e
  have c0 : w.cell? ⟨b, 0, none⟩ = some (.string { data := #[112, 97, 105, 114] }) := by simp [World.cell?, h2]
  have c2 : w.cell? ⟨b, 2, none⟩ = some (.slice (some ⟨g2, 0, none⟩) 2 cap2) := by simp [World.cell?, h2]
  simp at hc2 hc3
  simp [sz, szs] at hsz
  have szA := shT_size names 1000 (by omega) hM hwa
  have szB := shT_size names 1000 (by omega) hM hwa2
  have HA : Hid (∀ n : Nat, Calls Tryz.prog 23 #[p, .slice ao names.length cap] (w.drewN n) fun e w' => e = .returned (.string (shT names a)) ∧ ∃ m, w' = (w.drewN n).drewN m) := ih.at hra hrow (by omega)
  have HA2 : Hid (∀ n : Nat, Calls Tryz.prog 23 #[p2, .slice ao names.length cap] (w.drewN n) fun e w' => e = .returned (.string (shT names a2)) ∧ ∃ m, w' = (w.drewN n).drewN m) := ih2.at hra2 hrow (by omega)
  have e1 : Hid (shT names (.mk { data := #[112, 97, 105, 114] } 0 [a, a2]) = { data := #[40] } ++ shT names a ++ { data := #[44, 32] } ++ shT names a2 ++ { data := #[41] }) := shT_pair names a a2
  have s1 : (shT names a).size ≤ 1000000 := by have : 1006 * sz a ≤ 1006 * 900 := Nat.mul_le_mul_left _ (by omega); omega
  have s2 : (shT names a2).size ≤ 1000000 := by have : 1006 * sz a2 ≤ 1006 * 900 := Nat.mul_le_mul_left _ (by omega); omega
  generalize shT names a = ta at *
  generalize shT names a2 = ta2 at *
  clear h2 h4 hrow2 ih hra hwa szA hsz hrow ih2 hra2 hwa2 szB e
  go_enter Tryz.func23, Tryz.ntmps23
  go_wp2
  go_quiet ((first | (go_at_call_of 23 p; exact Calls.quiet_of (HA.out _)) | (go_at_call_of 23 p2; exact Calls.quiet_of (HA2.out _))))
  go_wp2
  go_ret
  exact ⟨ret_strT e1.out.symm, _, rfl⟩

theorem TRep.kd {w : World} : ∀ {t : Ty} {p : Value}, TRep w t p → ∃ b, p = .pointer (some ⟨b, 0, none⟩) ∧ w.cell? ⟨b, 0, none⟩ = some (.string t.kind)
  | .mk kd n kids, p, h => by
    simp only [TRep] at h
    obtain ⟨b, lv, ps, h1, h2, _⟩ := h
    exact ⟨b, h1, by simp [World.cell?, h2, Ty.kind]⟩

set_option maxRecDepth 20000 in
set_option maxHeartbeats 2000000 in
theorem shown_fn (names : List ByteArray) (hM : ∀ m, m ∈ names → m.size ≤ 1000) (a a2 : Ty) (hwa : WT names.length a) (hwa2 : WT names.length a2) (ih : SShown names a) (ih2 : SShown names a2) : SShown names (.mk { data := #[102, 117, 110] } 0 [a, a2]) := by
  intro w v nv B hr hrow hsz
  simp only [TRep, TReps] at hr
  obtain ⟨b, lv, ps, rfl, h2, h4, p, qs, rfl, hra, p2, qs2, rfl, hra2, rfl⟩ := hr
  obtain ⟨ao, cap, rfl, _⟩ := row_form0 hrow
  obtain ⟨ao2, cap2, rfl, hrow2⟩ := row_form h4
  obtain ⟨g2, rfl, hc2⟩ := hrow2 0 (by simp)
  obtain ⟨g2', e, hc3⟩ := hrow2 1 (by simp)
  obtain rfl : g2 = g2' := by injection e with e; injection e
  obtain ⟨pb, rfl, hpk⟩ := hra.kd
  have c0 : w.cell? ⟨b, 0, none⟩ = some (.string { data := #[102, 117, 110] }) := by simp [World.cell?, h2]
  have c2 : w.cell? ⟨b, 2, none⟩ = some (.slice (some ⟨g2, 0, none⟩) 2 cap2) := by simp [World.cell?, h2]
  simp at hc2 hc3
  simp [sz, szs] at hsz
  have szA := shT_size names 1000 (by omega) hM hwa
  have szB := shT_size names 1000 (by omega) hM hwa2
  have HA : Hid (∀ n : Nat, Calls Tryz.prog 23 #[.pointer (some ⟨pb, 0, none⟩), .slice ao names.length cap] (w.drewN n) fun e w' => e = .returned (.string (shT names a)) ∧ ∃ m, w' = (w.drewN n).drewN m) := ih.at hra hrow (by omega)
  have HA2 : Hid (∀ n : Nat, Calls Tryz.prog 23 #[p2, .slice ao names.length cap] (w.drewN n) fun e w' => e = .returned (.string (shT names a2)) ∧ ∃ m, w' = (w.drewN n).drewN m) := ih2.at hra2 hrow (by omega)
  have e1 : Hid (shT names (.mk { data := #[102, 117, 110] } 0 [a, a2]) = brkT (a.kind.toList == [102, 117, 110]) (shT names a) ++ { data := #[32, 45, 62, 32] } ++ shT names a2) := by show _ = _; rw [shT_fn, ByteArray.toList_eq]
  have s1 : (shT names a).size ≤ 1000000 := by have : 1006 * sz a ≤ 1006 * 900 := Nat.mul_le_mul_left _ (by omega); omega
  have s2 : (shT names a2).size ≤ 1000000 := by have : 1006 * sz a2 ≤ 1006 * 900 := Nat.mul_le_mul_left _ (by omega); omega
  generalize shT names a = ta at *
  generalize shT names a2 = ta2 at *
  generalize a.kind = ak at *
  clear h2 h4 hrow2 ih hra hwa szA hsz hrow ih2 hra2 hwa2 szB e
  cases hk : (ak.toList == [102, 117, 110])
  all_goals
    have E : Hid _ := e1.out
    rw [hk] at E
    clear e1
    go_enter Tryz.func23, Tryz.ntmps23
    go_wp2_with fail
    refine Calls.mono (HA.out 0) ?_
    rintro e w1 ⟨rfl, m1, rfl⟩
    go_wp2_with fail
    refine Calls.mono (HA2.out m1) ?_
    rintro e w2 ⟨rfl, m2, rfl⟩
    go_wp2
    go_ret
    exact ⟨ret_strT (by rw [E.out]; rfl), _, rfl⟩

theorem shown_any (names : List ByteArray) (hM : ∀ m, m ∈ names → m.size ≤ 1000) {t : Ty} (h : WT names.length t) : SShown names t := by
  induction h with
  | var n hn => exact shown_var names n hn
  | int => exact shown_base names _ (.inl rfl)
  | bool => exact shown_base names _ (.inr rfl)
  | list a ha ih => exact shown_list names hM a ha ih
  | pair a b ha hb ih ih2 => exact shown_pair names hM a b ha hb ih ih2
  | fn a b ha hb ih ih2 => exact shown_fn names hM a b ha hb ih ih2
end Go.Proofs.YtleenphlgbklmaaGreatDoor
