import Derived.Test.YtleenphlgbklmabGreatDoorWPPf
import Derived.Test.YtleenphlgbklmabGreatDoorWFaultU
set_option linter.unusedVariables false
set_option linter.unusedSimpArgs false
namespace Go.Proofs.YtleenphlgbklmabGreatDoor
open Go.RowKit

/-- the environment of the laws that keep, as it is written, and sorted. -/
def envK : List (ByteArray × ByteArray) := [({ data := #[116, 114, 117, 101] }, { data := #[98, 111, 111, 108] }), ({ data := #[110, 105, 108] }, { data := #[91, 97, 93] }), ({ data := #[99, 111, 110, 115] }, { data := #[97, 32, 45, 62, 32, 91, 97, 93, 32, 45, 62, 32, 91, 97, 93] }), ({ data := #[102, 115, 116] }, { data := #[40, 97, 44, 32, 98, 41, 32, 45, 62, 32, 97] }), ({ data := #[115, 110, 100] }, { data := #[40, 97, 44, 32, 98, 41, 32, 45, 62, 32, 98] }), ({ data := #[97, 100, 100] }, { data := #[105, 110, 116, 32, 45, 62, 32, 105, 110, 116, 32, 45, 62, 32, 105, 110, 116] }), ({ data := #[101, 113] }, { data := #[97, 32, 45, 62, 32, 97, 32, 45, 62, 32, 98, 111, 111, 108] }), ({ data := #[104, 100] }, { data := #[91, 97, 93, 32, 45, 62, 32, 97] }), ({ data := #[116, 108] }, { data := #[91, 97, 93, 32, 45, 62, 32, 91, 97, 93] }), ({ data := #[101, 109, 112, 116, 121] }, { data := #[91, 120, 93, 32, 45, 62, 32, 98, 111, 111, 108] })]
def envS : List (ByteArray × ByteArray) := [({ data := #[97, 100, 100] }, { data := #[105, 110, 116, 32, 45, 62, 32, 105, 110, 116, 32, 45, 62, 32, 105, 110, 116] }), ({ data := #[99, 111, 110, 115] }, { data := #[97, 32, 45, 62, 32, 91, 97, 93, 32, 45, 62, 32, 91, 97, 93] }), ({ data := #[101, 109, 112, 116, 121] }, { data := #[91, 120, 93, 32, 45, 62, 32, 98, 111, 111, 108] }), ({ data := #[101, 113] }, { data := #[97, 32, 45, 62, 32, 97, 32, 45, 62, 32, 98, 111, 111, 108] }), ({ data := #[102, 115, 116] }, { data := #[40, 97, 44, 32, 98, 41, 32, 45, 62, 32, 97] }), ({ data := #[104, 100] }, { data := #[91, 97, 93, 32, 45, 62, 32, 97] }), ({ data := #[110, 105, 108] }, { data := #[91, 97, 93] }), ({ data := #[115, 110, 100] }, { data := #[40, 97, 44, 32, 98, 41, 32, 45, 62, 32, 98] }), ({ data := #[116, 108] }, { data := #[91, 97, 93, 32, 45, 62, 32, 91, 97, 93] }), ({ data := #[116, 114, 117, 101] }, { data := #[98, 111, 111, 108] })]
theorem env_perm : envS.Perm envK := by
  have h : @List.isPerm _ instBEqOfDecidableEq envS envK = true := by kernel_rfl
  exact (@List.isPerm_iff _ instBEqOfDecidableEq _ envS envK).1 h
theorem env_sorted : (envS.map fun y => y.1.data.toList).Pairwise (fun x y => decide (x ≤ y) = true) := by decide +kernel
theorem env_nodup : (envK.map Prod.fst).Nodup := by decide +kernel
theorem env_small : ∀ y, y ∈ envK → y.1.size ≤ 1000 := by decide +kernel
set_option maxRecDepth 20000 in
theorem kn_sx (w : World) : Calls Tryz.prog 33 #[] w fun e w' => ∃ g, e = .returned (.slice (some ⟨g, 0, none⟩) 10 10) ∧ RowS w' (.slice (some ⟨g, 0, none⟩) 10 10) (envK.map Prod.fst) ∧ Kept w w' := by
  go_enter Tryz.func33, Tryz.ntmps33
  go_wp2
  go_ret
  refine ⟨w.heap.size, rfl, ⟨some ⟨w.heap.size, 0, none⟩, 10, w.heap.size, rfl, fun q x hx => ⟨rfl, _, heap_alloc_new _ _, ?_⟩⟩, Kept.alloc _ _⟩
  show (((envK.map Prod.fst).map Value.string).toArray)[q]? = _
  rw [List.getElem?_toArray, List.getElem?_map, hx]
  rfl
set_option maxRecDepth 20000 in
theorem kt_sx (w : World) : Calls Tryz.prog 34 #[] w fun e w' => ∃ g, e = .returned (.slice (some ⟨g, 0, none⟩) 10 10) ∧ RowS w' (.slice (some ⟨g, 0, none⟩) 10 10) (envK.map Prod.snd) ∧ Kept w w' := by
  go_enter Tryz.func34, Tryz.ntmps34
  go_wp2
  go_ret
  refine ⟨w.heap.size, rfl, ⟨some ⟨w.heap.size, 0, none⟩, 10, w.heap.size, rfl, fun q x hx => ⟨rfl, _, heap_alloc_new _ _, ?_⟩⟩, Kept.alloc _ _⟩
  show (((envK.map Prod.snd).map Value.string).toArray)[q]? = _
  rw [List.getElem?_toArray, List.getElem?_map, hx]
  rfl
/-- what the laws' own infer answers: the text, the fault's number, where, and the name. -/
def IfO.t : IfO → ByteArray
  | .txt t => t
  | _ => { data := #[] }
def IfO.what : IfO → Int
  | .txt _ => 0
  | .sen j => senNo j
  | .unb _ _ => 4
def IfO.loc : IfO → Int
  | .unb l _ => l
  | _ => 0
def IfO.s : IfO → ByteArray
  | .unb _ n => n
  | _ => { data := #[] }
def IfO.good : IfO → Prop
  | .sen j => j < 8
  | _ => True
theorem ki_hi {A : Nat → Addr} {rk : Bool} {s : ByteArray} {o : IfO} (w : World) (hG : Glb A w) (h : inferF rk 6 s envS = some o) (hg : o.good)
    (hrc : rk = true → ∀ gv f, SCk gv f → SCg gv f) (hrt : rk = true → ∀ B gv f, STf A B KN gv (6 : Nat) .nilFunc f → SGr tlN A B KN gv 6 .nilFunc f) :
    ∀ W em, Kept w W → SM W em envK → Calls Tryz.prog 30 #[.string s, .map (some em), .int .i64 6] W fun e w' => Kept W w' ∧ ∃ er, e = .returned (.tuple #[.string o.t, er]) ∧ (er = .nilIface ∨ ∃ T u, er = .iface T u) ∧ ∀ w2, Kept w' w2 → Calls Tryz.prog 22 #[er] w2 fun e w'' => e = .returned (faultVal o.what o.loc o.s) ∧ Kept w2 w'' := by
  intro W em hk hS
  refine (infer_sx (fl := 6) W (hG.kept hk) hS (by decide) env_small env_perm env_sorted (by omega) (by omega) hrc hrt h).mono ?_
  rintro e w' ⟨v, rfl, hk', hO⟩
  have hG' := (hG.kept hk).kept hk'
  refine ⟨hk', ?_⟩
  cases o with
  | txt t =>
    have hO : v = _ := hO
    subst hO
    exact ⟨.nilIface, rfl, .inl rfl, fun w2 hk2 => (fault_nil w2).mono (fun e w'' ⟨a1, a2⟩ => ⟨a1, Kept.below a2⟩)⟩
  | sen j =>
    have hO : v = _ := hO
    subst hO
    exact ⟨_, rfl, .inr ⟨_, _, rfl⟩, fun w2 hk2 => fault_sen w2 (hG'.kept hk2) j hg⟩
  | unb l n =>
    obtain ⟨b, rfl, hb⟩ := hO
    exact ⟨_, rfl, .inr ⟨_, _, rfl⟩, fun w2 hk2 => (fault_unb w2 (hG'.kept hk2) b l n (hk2.blk hb)).mono (fun e w'' ⟨a1, a2⟩ => ⟨a1, Kept.below a2⟩)⟩
set_option maxRecDepth 20000 in
set_option maxHeartbeats 2000000 in
theorem kinfer_sx {w : World} {s t ss : ByteArray} {what loc : Int} (HI : ∀ W em, Kept w W → SM W em envK → Calls Tryz.prog 30 #[.string s, .map (some em), .int .i64 6] W fun e w' => Kept W w' ∧ ∃ er, e = .returned (.tuple #[.string t, er]) ∧ (er = .nilIface ∨ ∃ T u, er = .iface T u) ∧ ∀ w2, Kept w' w2 → Calls Tryz.prog 22 #[er] w2 fun e w'' => e = .returned (faultVal what loc ss) ∧ Kept w2 w'') :
    Calls Tryz.prog 16 #[.string s] w fun e w' => e = .returned (.tuple #[.string t, faultVal what loc ss]) ∧ Kept w w' := by
  have HI' : Hid _ := HI
  have hk0 : Kept w (w.alloc (.cells #[.int .i64 0, .int .i64 0, .string { data := #[] }, .int .i64 0, .int .i64 0] 23)) := Kept.alloc _ _
  have hb0 := heap_alloc_new w (.cells #[.int .i64 0, .int .i64 0, .string { data := #[] }, .int .i64 0, .int .i64 0] 23)
  clear HI
  go_enter Tryz.func16, Tryz.ntmps16
  go_wp2_with fail
  generalize w.alloc (.cells #[.int .i64 0, .int .i64 0, .string { data := #[] }, .int .i64 0, .int .i64 0] 23) = W at *
  refine Calls.mono (kn_sx W) ?_
  rintro e w1 ⟨g, rfl, hn, hk1⟩
  have HN : Hid _ := hn
  have HB1 : Hid _ := hk1.blk hb0
  have HK1 : Hid _ := hk0.trans hk1
  clear hk1 hb0 hk0 hn
  go_wp2_with fail
  refine Calls.mono (kt_sx w1) ?_
  rintro e w2 ⟨g2, rfl, ht, hk2⟩
  have HB2 : Hid _ := hk2.blk HB1.out
  have HK2 : Hid _ := HK1.out.trans hk2
  have HC : Hid _ := pl_infer (kv := envK) (RowS.kept HN.out hk2) ht env_nodup (by decide) (fun W em hk => HI'.out W em (HK2.out.trans hk))
  clear ht hk2 HN HB1 HK1 HI'
  go_wp2_with fail
  refine Calls.mono HC.out ?_
  rintro e w3 ⟨rfl, hk3⟩
  have HB3 : Hid _ := hk3.blk HB2.out
  have HK3 : Hid _ := HK2.out.trans hk3
  clear hk3 HC HB2 HK2
  unfold faultVal
  have hn4 := heap_alloc_new w3 (.cells #[.int .i64 what, .int .i64 loc, .string ss, .int .i64 0, .int .i64 0] 23)
  have hk4 : Kept w3 (w3.alloc (.cells #[.int .i64 what, .int .i64 loc, .string ss, .int .i64 0, .int .i64 0] 23)) := Kept.alloc _ _
  go_wp2_with fail
  generalize w3.alloc (.cells #[.int .i64 what, .int .i64 loc, .string ss, .int .i64 0, .int .i64 0] 23) = V at *
  have hkd := hk4.trans (Kept.drew V)
  have hb5 := hkd.blk HB3.out
  have hn5 := (Kept.drew V).blk hn4
  have hK := HK3.out.trans hkd
  clear hn4 hk4 hkd HB3 HK3
  have a0 : V.drew.cell? ⟨w3.heap.size, 0, none⟩ = some (.int .i64 what) := by simp [World.cell?, hn5]
  have a1 : V.drew.cell? ⟨w3.heap.size, 1, none⟩ = some (.int .i64 loc) := by simp [World.cell?, hn5]
  have a2 : V.drew.cell? ⟨w3.heap.size, 2, none⟩ = some (.string ss) := by simp [World.cell?, hn5]
  have a3 : V.drew.cell? ⟨w3.heap.size, 3, none⟩ = some (.int .i64 0) := by simp [World.cell?, hn5]
  have a4 : V.drew.cell? ⟨w3.heap.size, 4, none⟩ = some (.int .i64 0) := by simp [World.cell?, hn5]
  have c0 : V.drew.cell? ⟨w.heap.size, 0, none⟩ = some (.int .i64 0) := by simp [World.cell?, hb5]
  have c1 : V.drew.cell? ⟨w.heap.size, 1, none⟩ = some (.int .i64 0) := by simp [World.cell?, hb5]
  have c2 : V.drew.cell? ⟨w.heap.size, 2, none⟩ = some (.string { data := #[] }) := by simp [World.cell?, hb5]
  have c3 : V.drew.cell? ⟨w.heap.size, 3, none⟩ = some (.int .i64 0) := by simp [World.cell?, hb5]
  have c4 : V.drew.cell? ⟨w.heap.size, 4, none⟩ = some (.int .i64 0) := by simp [World.cell?, hb5]
  have f0 : ∀ j, V.drew.frozen? ⟨w.heap.size, j, none⟩ = false := fun j => by simp [World.frozen?, hb5]
  have a0' : V.cell? ⟨w3.heap.size, 0, none⟩ = some (.int .i64 what) := a0
  have a1' : V.cell? ⟨w3.heap.size, 1, none⟩ = some (.int .i64 loc) := a1
  have a2' : V.cell? ⟨w3.heap.size, 2, none⟩ = some (.string ss) := a2
  have a3' : V.cell? ⟨w3.heap.size, 3, none⟩ = some (.int .i64 0) := a3
  have a4' : V.cell? ⟨w3.heap.size, 4, none⟩ = some (.int .i64 0) := a4
  have c0' : V.cell? ⟨w.heap.size, 0, none⟩ = some (.int .i64 0) := c0
  have c1' : V.cell? ⟨w.heap.size, 1, none⟩ = some (.int .i64 0) := c1
  have c2' : V.cell? ⟨w.heap.size, 2, none⟩ = some (.string { data := #[] }) := c2
  have c3' : V.cell? ⟨w.heap.size, 3, none⟩ = some (.int .i64 0) := c3
  have c4' : V.cell? ⟨w.heap.size, 4, none⟩ = some (.int .i64 0) := c4
  have f0' : ∀ j, V.frozen? ⟨w.heap.size, j, none⟩ = false := f0
  go_region
  all_goals
    go_wp2_with fail
    have hbV : V.heap[w.heap.size]? = some (.cells #[.int .i64 0, .int .i64 0, .string { data := #[] }, .int .i64 0, .int .i64 0] 23 (0, 0)) := hb5
    obtain ⟨w6, hw6⟩ : ∃ w6, w6 = (((((V.setCell ⟨w.heap.size, 0, none⟩ (.int .i64 what)).setCell ⟨w.heap.size, 1, none⟩ (.int .i64 loc)).setCell ⟨w.heap.size, 2, none⟩ (.string ss)).setCell ⟨w.heap.size, 3, none⟩ (.int .i64 0)).setCell ⟨w.heap.size, 4, none⟩ (.int .i64 0)).drew := ⟨_, rfl⟩
    have hF : w6.heap[w.heap.size]? = some (.cells #[.int .i64 what, .int .i64 loc, .string ss, .int .i64 0, .int .i64 0] 23 (0, 0)) := by
      rw [hw6]
      refine (Kept.drew _).blk ?_
      simp [World.setCell, hbV, Array.getElem?_modify]
    have hKF : Kept w w6 := by
      rw [hw6]
      refine Kept.trans ?_ (Kept.drew _)
      refine ⟨hK.1, hK.2, by simpa using hK.3, fun q hq => ?_⟩
      have e : ∀ (W : World) (j : Nat) (v : Value), (W.setCell ⟨w.heap.size, j, none⟩ v).heap[q]? = W.heap[q]? := fun W j v => Below.heap_setCell _ _ _ q (by intro z; simp at z; omega)
      exact (e _ _ _).trans ((e _ _ _).trans ((e _ _ _).trans ((e _ _ _).trans ((e _ _ _).trans (hK.4 q hq)))))
    rw [← hw6]
    clear hw6
    have d0 : w6.cell? ⟨w.heap.size, 0, none⟩ = some (.int .i64 what) := by simp [World.cell?, hF]
    have d1 : w6.cell? ⟨w.heap.size, 1, none⟩ = some (.int .i64 loc) := by simp [World.cell?, hF]
    have d2 : w6.cell? ⟨w.heap.size, 2, none⟩ = some (.string ss) := by simp [World.cell?, hF]
    have d3 : w6.cell? ⟨w.heap.size, 3, none⟩ = some (.int .i64 0) := by simp [World.cell?, hF]
    have d4 : w6.cell? ⟨w.heap.size, 4, none⟩ = some (.int .i64 0) := by simp [World.cell?, hF]
    exact bodyPost_ret (v := .tuple #[.string t, .agg #[.int .i64 what, .int .i64 loc, .string ss, .int .i64 0, .int .i64 0]]) (by simp [results, Tryz.results16, go_sem, d0, d1, d2, d3, d4]) rfl ⟨rfl, hKF⟩
end Go.Proofs.YtleenphlgbklmabGreatDoor
