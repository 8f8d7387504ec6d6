/- SHA-256 of abc, word by word, step by step -/
import Derived.Test.YtcedecljbgailaaDoorDgy
namespace Go.Proofs.YtcedecljbgailaaDoor.Dg
def abcL : List (BitVec 8) := [97#8, 98#8, 99#8]
theorem abc_pad : pad abcL = [97#8, 98#8, 99#8, 128#8, 0#8, 0#8, 0#8, 0#8, 0#8, 0#8, 0#8, 0#8, 0#8, 0#8, 0#8, 0#8, 0#8, 0#8, 0#8, 0#8, 0#8, 0#8, 0#8, 0#8, 0#8, 0#8, 0#8, 0#8, 0#8, 0#8, 0#8, 0#8, 0#8, 0#8, 0#8, 0#8, 0#8, 0#8, 0#8, 0#8, 0#8, 0#8, 0#8, 0#8, 0#8, 0#8, 0#8, 0#8, 0#8, 0#8, 0#8, 0#8, 0#8, 0#8, 0#8, 0#8, 0#8, 0#8, 0#8, 0#8, 0#8, 0#8, 0#8, 24#8] := by decide +kernel
def abcM : Nat → BitVec 32 := blk [97#8, 98#8, 99#8, 128#8, 0#8, 0#8, 0#8, 0#8, 0#8, 0#8, 0#8, 0#8, 0#8, 0#8, 0#8, 0#8, 0#8, 0#8, 0#8, 0#8, 0#8, 0#8, 0#8, 0#8, 0#8, 0#8, 0#8, 0#8, 0#8, 0#8, 0#8, 0#8, 0#8, 0#8, 0#8, 0#8, 0#8, 0#8, 0#8, 0#8, 0#8, 0#8, 0#8, 0#8, 0#8, 0#8, 0#8, 0#8, 0#8, 0#8, 0#8, 0#8, 0#8, 0#8, 0#8, 0#8, 0#8, 0#8, 0#8, 0#8, 0#8, 0#8, 0#8, 24#8] 0
theorem abc_w0 : sch abcM 0 = 1633837952#32 := by rw [sch_lo _ (by omega)]; decide +kernel
theorem abc_w1 : sch abcM 1 = 0#32 := by rw [sch_lo _ (by omega)]; decide +kernel
theorem abc_w2 : sch abcM 2 = 0#32 := by rw [sch_lo _ (by omega)]; decide +kernel
theorem abc_w3 : sch abcM 3 = 0#32 := by rw [sch_lo _ (by omega)]; decide +kernel
theorem abc_w4 : sch abcM 4 = 0#32 := by rw [sch_lo _ (by omega)]; decide +kernel
theorem abc_w5 : sch abcM 5 = 0#32 := by rw [sch_lo _ (by omega)]; decide +kernel
theorem abc_w6 : sch abcM 6 = 0#32 := by rw [sch_lo _ (by omega)]; decide +kernel
theorem abc_w7 : sch abcM 7 = 0#32 := by rw [sch_lo _ (by omega)]; decide +kernel
theorem abc_w8 : sch abcM 8 = 0#32 := by rw [sch_lo _ (by omega)]; decide +kernel
theorem abc_w9 : sch abcM 9 = 0#32 := by rw [sch_lo _ (by omega)]; decide +kernel
theorem abc_w10 : sch abcM 10 = 0#32 := by rw [sch_lo _ (by omega)]; decide +kernel
theorem abc_w11 : sch abcM 11 = 0#32 := by rw [sch_lo _ (by omega)]; decide +kernel
theorem abc_w12 : sch abcM 12 = 0#32 := by rw [sch_lo _ (by omega)]; decide +kernel
theorem abc_w13 : sch abcM 13 = 0#32 := by rw [sch_lo _ (by omega)]; decide +kernel
theorem abc_w14 : sch abcM 14 = 0#32 := by rw [sch_lo _ (by omega)]; decide +kernel
theorem abc_w15 : sch abcM 15 = 24#32 := by rw [sch_lo _ (by omega)]; decide +kernel
theorem abc_w16 : sch abcM 16 = 1633837952#32 := by rw [sch_hi _ (by omega), show 16 - 2 = 14 from rfl, show 16 - 7 = 9 from rfl, show 16 - 15 = 1 from rfl, show 16 - 16 = 0 from rfl, abc_w14, abc_w9, abc_w1, abc_w0]; decide +kernel
theorem abc_w17 : sch abcM 17 = 983040#32 := by rw [sch_hi _ (by omega), show 17 - 2 = 15 from rfl, show 17 - 7 = 10 from rfl, show 17 - 15 = 2 from rfl, show 17 - 16 = 1 from rfl, abc_w15, abc_w10, abc_w2, abc_w1]; decide +kernel
theorem abc_w18 : sch abcM 18 = 2108187653#32 := by rw [sch_hi _ (by omega), show 18 - 2 = 16 from rfl, show 18 - 7 = 11 from rfl, show 18 - 15 = 3 from rfl, show 18 - 16 = 2 from rfl, abc_w16, abc_w11, abc_w3, abc_w2]; decide +kernel
theorem abc_w19 : sch abcM 19 = 1610613702#32 := by rw [sch_hi _ (by omega), show 19 - 2 = 17 from rfl, show 19 - 7 = 12 from rfl, show 19 - 15 = 4 from rfl, show 19 - 16 = 3 from rfl, abc_w17, abc_w12, abc_w4, abc_w3]; decide +kernel
theorem abc_w20 : sch abcM 20 = 1050508152#32 := by rw [sch_hi _ (by omega), show 20 - 2 = 18 from rfl, show 20 - 7 = 13 from rfl, show 20 - 15 = 5 from rfl, show 20 - 16 = 4 from rfl, abc_w18, abc_w13, abc_w5, abc_w4]; decide +kernel
theorem abc_w21 : sch abcM 21 = 25426944#32 := by rw [sch_hi _ (by omega), show 21 - 2 = 19 from rfl, show 21 - 7 = 14 from rfl, show 21 - 15 = 6 from rfl, show 21 - 16 = 5 from rfl, abc_w19, abc_w14, abc_w6, abc_w5]; decide +kernel
theorem abc_w22 : sch abcM 22 = 316456923#32 := by rw [sch_hi _ (by omega), show 22 - 2 = 20 from rfl, show 22 - 7 = 15 from rfl, show 22 - 15 = 7 from rfl, show 22 - 16 = 6 from rfl, abc_w20, abc_w15, abc_w7, abc_w6]; decide +kernel
theorem abc_w23 : sch abcM 23 = 3806512014#32 := by rw [sch_hi _ (by omega), show 23 - 2 = 21 from rfl, show 23 - 7 = 16 from rfl, show 23 - 15 = 8 from rfl, show 23 - 16 = 7 from rfl, abc_w21, abc_w16, abc_w8, abc_w7]; decide +kernel
theorem abc_w24 : sch abcM 24 = 3357629466#32 := by rw [sch_hi _ (by omega), show 24 - 2 = 22 from rfl, show 24 - 7 = 17 from rfl, show 24 - 15 = 9 from rfl, show 24 - 16 = 8 from rfl, abc_w22, abc_w17, abc_w9, abc_w8]; decide +kernel
theorem abc_w25 : sch abcM 25 = 3073800610#32 := by rw [sch_hi _ (by omega), show 25 - 2 = 23 from rfl, show 25 - 7 = 18 from rfl, show 25 - 15 = 10 from rfl, show 25 - 16 = 9 from rfl, abc_w23, abc_w18, abc_w10, abc_w9]; decide +kernel
theorem abc_w26 : sch abcM 26 = 3854317833#32 := by rw [sch_hi _ (by omega), show 26 - 2 = 24 from rfl, show 26 - 7 = 19 from rfl, show 26 - 15 = 11 from rfl, show 26 - 16 = 10 from rfl, abc_w24, abc_w19, abc_w11, abc_w10]; decide +kernel
theorem abc_w27 : sch abcM 27 = 845560923#32 := by rw [sch_hi _ (by omega), show 27 - 2 = 25 from rfl, show 27 - 7 = 20 from rfl, show 27 - 15 = 12 from rfl, show 27 - 16 = 11 from rfl, abc_w25, abc_w20, abc_w12, abc_w11]; decide +kernel
theorem abc_w28 : sch abcM 28 = 2636160359#32 := by rw [sch_hi _ (by omega), show 28 - 2 = 26 from rfl, show 28 - 7 = 21 from rfl, show 28 - 15 = 13 from rfl, show 28 - 16 = 12 from rfl, abc_w26, abc_w21, abc_w13, abc_w12]; decide +kernel
theorem abc_w29 : sch abcM 29 = 3968280267#32 := by rw [sch_hi _ (by omega), show 29 - 2 = 27 from rfl, show 29 - 7 = 22 from rfl, show 29 - 15 = 14 from rfl, show 29 - 16 = 13 from rfl, abc_w27, abc_w22, abc_w14, abc_w13]; decide +kernel
theorem abc_w30 : sch abcM 30 = 1881225380#32 := by rw [sch_hi _ (by omega), show 30 - 2 = 28 from rfl, show 30 - 7 = 23 from rfl, show 30 - 15 = 15 from rfl, show 30 - 16 = 14 from rfl, abc_w28, abc_w23, abc_w15, abc_w14]; decide +kernel
theorem abc_w31 : sch abcM 31 = 3552024379#32 := by rw [sch_hi _ (by omega), show 31 - 2 = 29 from rfl, show 31 - 7 = 24 from rfl, show 31 - 15 = 16 from rfl, show 31 - 16 = 15 from rfl, abc_w29, abc_w24, abc_w16, abc_w15]; decide +kernel
theorem abc_w32 : sch abcM 32 = 2482346367#32 := by rw [sch_hi _ (by omega), show 32 - 2 = 30 from rfl, show 32 - 7 = 25 from rfl, show 32 - 15 = 17 from rfl, show 32 - 16 = 16 from rfl, abc_w30, abc_w25, abc_w17, abc_w16]; decide +kernel
theorem abc_w33 : sch abcM 33 = 996719219#32 := by rw [sch_hi _ (by omega), show 33 - 2 = 31 from rfl, show 33 - 7 = 26 from rfl, show 33 - 15 = 18 from rfl, show 33 - 16 = 17 from rfl, abc_w31, abc_w26, abc_w18, abc_w17]; decide +kernel
theorem abc_w34 : sch abcM 34 = 2952069057#32 := by rw [sch_hi _ (by omega), show 34 - 2 = 32 from rfl, show 34 - 7 = 27 from rfl, show 34 - 15 = 19 from rfl, show 34 - 16 = 18 from rfl, abc_w32, abc_w27, abc_w19, abc_w18]; decide +kernel
theorem abc_w35 : sch abcM 35 = 4043988066#32 := by rw [sch_hi _ (by omega), show 35 - 2 = 33 from rfl, show 35 - 7 = 28 from rfl, show 35 - 15 = 20 from rfl, show 35 - 16 = 19 from rfl, abc_w33, abc_w28, abc_w20, abc_w19]; decide +kernel
theorem abc_w36 : sch abcM 36 = 176896406#32 := by rw [sch_hi _ (by omega), show 36 - 2 = 34 from rfl, show 36 - 7 = 29 from rfl, show 36 - 15 = 21 from rfl, show 36 - 16 = 20 from rfl, abc_w34, abc_w29, abc_w21, abc_w20]; decide +kernel
theorem abc_w37 : sch abcM 37 = 1924104970#32 := by rw [sch_hi _ (by omega), show 37 - 2 = 35 from rfl, show 37 - 7 = 30 from rfl, show 37 - 15 = 22 from rfl, show 37 - 16 = 21 from rfl, abc_w35, abc_w30, abc_w22, abc_w21]; decide +kernel
theorem abc_w38 : sch abcM 38 = 2483675966#32 := by rw [sch_hi _ (by omega), show 38 - 2 = 36 from rfl, show 38 - 7 = 31 from rfl, show 38 - 15 = 23 from rfl, show 38 - 16 = 22 from rfl, abc_w36, abc_w31, abc_w23, abc_w22]; decide +kernel
theorem abc_w39 : sch abcM 39 = 610538786#32 := by rw [sch_hi _ (by omega), show 39 - 2 = 37 from rfl, show 39 - 7 = 32 from rfl, show 39 - 15 = 24 from rfl, show 39 - 16 = 23 from rfl, abc_w37, abc_w32, abc_w24, abc_w23]; decide +kernel
theorem abc_w40 : sch abcM 40 = 2672279444#32 := by rw [sch_hi _ (by omega), show 40 - 2 = 38 from rfl, show 40 - 7 = 33 from rfl, show 40 - 15 = 25 from rfl, show 40 - 16 = 24 from rfl, abc_w38, abc_w33, abc_w25, abc_w24]; decide +kernel
theorem abc_w41 : sch abcM 41 = 4037431130#32 := by rw [sch_hi _ (by omega), show 41 - 2 = 39 from rfl, show 41 - 7 = 34 from rfl, show 41 - 15 = 26 from rfl, show 41 - 16 = 25 from rfl, abc_w39, abc_w34, abc_w26, abc_w25]; decide +kernel
theorem abc_w42 : sch abcM 42 = 1042573945#32 := by rw [sch_hi _ (by omega), show 42 - 2 = 40 from rfl, show 42 - 7 = 35 from rfl, show 42 - 15 = 27 from rfl, show 42 - 16 = 26 from rfl, abc_w40, abc_w35, abc_w27, abc_w26]; decide +kernel
theorem abc_w43 : sch abcM 43 = 657669027#32 := by rw [sch_hi _ (by omega), show 43 - 2 = 41 from rfl, show 43 - 7 = 36 from rfl, show 43 - 15 = 28 from rfl, show 43 - 16 = 27 from rfl, abc_w41, abc_w36, abc_w28, abc_w27]; decide +kernel
theorem abc_w44 : sch abcM 44 = 206005234#32 := by rw [sch_hi _ (by omega), show 44 - 2 = 42 from rfl, show 44 - 7 = 37 from rfl, show 44 - 15 = 29 from rfl, show 44 - 16 = 28 from rfl, abc_w42, abc_w37, abc_w29, abc_w28]; decide +kernel
theorem abc_w45 : sch abcM 45 = 2215296807#32 := by rw [sch_hi _ (by omega), show 45 - 2 = 43 from rfl, show 45 - 7 = 38 from rfl, show 45 - 15 = 30 from rfl, show 45 - 16 = 29 from rfl, abc_w43, abc_w38, abc_w30, abc_w29]; decide +kernel
theorem abc_w46 : sch abcM 46 = 2049510749#32 := by rw [sch_hi _ (by omega), show 46 - 2 = 44 from rfl, show 46 - 7 = 39 from rfl, show 46 - 15 = 31 from rfl, show 46 - 16 = 30 from rfl, abc_w44, abc_w39, abc_w31, abc_w30]; decide +kernel
theorem abc_w47 : sch abcM 47 = 106709978#32 := by rw [sch_hi _ (by omega), show 47 - 2 = 45 from rfl, show 47 - 7 = 40 from rfl, show 47 - 15 = 32 from rfl, show 47 - 16 = 31 from rfl, abc_w45, abc_w40, abc_w32, abc_w31]; decide +kernel
theorem abc_w48 : sch abcM 48 = 4215179723#32 := by rw [sch_hi _ (by omega), show 48 - 2 = 46 from rfl, show 48 - 7 = 41 from rfl, show 48 - 15 = 33 from rfl, show 48 - 16 = 32 from rfl, abc_w46, abc_w41, abc_w33, abc_w32]; decide +kernel
theorem abc_w49 : sch abcM 49 = 3430291419#32 := by rw [sch_hi _ (by omega), show 49 - 2 = 47 from rfl, show 49 - 7 = 42 from rfl, show 49 - 15 = 34 from rfl, show 49 - 16 = 33 from rfl, abc_w47, abc_w42, abc_w34, abc_w33]; decide +kernel
theorem abc_w50 : sch abcM 50 = 3118885940#32 := by rw [sch_hi _ (by omega), show 50 - 2 = 48 from rfl, show 50 - 7 = 43 from rfl, show 50 - 15 = 35 from rfl, show 50 - 16 = 34 from rfl, abc_w48, abc_w43, abc_w35, abc_w34]; decide +kernel
theorem abc_w51 : sch abcM 51 = 2845390439#32 := by rw [sch_hi _ (by omega), show 51 - 2 = 49 from rfl, show 51 - 7 = 44 from rfl, show 51 - 15 = 36 from rfl, show 51 - 16 = 35 from rfl, abc_w49, abc_w44, abc_w36, abc_w35]; decide +kernel
theorem abc_w52 : sch abcM 52 = 2226839261#32 := by rw [sch_hi _ (by omega), show 52 - 2 = 50 from rfl, show 52 - 7 = 45 from rfl, show 52 - 15 = 37 from rfl, show 52 - 16 = 36 from rfl, abc_w50, abc_w45, abc_w37, abc_w36]; decide +kernel
theorem abc_w53 : sch abcM 53 = 3256115900#32 := by rw [sch_hi _ (by omega), show 53 - 2 = 51 from rfl, show 53 - 7 = 46 from rfl, show 53 - 15 = 38 from rfl, show 53 - 16 = 37 from rfl, abc_w51, abc_w46, abc_w38, abc_w37]; decide +kernel
theorem abc_w54 : sch abcM 54 = 344409900#32 := by rw [sch_hi _ (by omega), show 54 - 2 = 52 from rfl, show 54 - 7 = 47 from rfl, show 54 - 15 = 39 from rfl, show 54 - 16 = 38 from rfl, abc_w52, abc_w47, abc_w39, abc_w38]; decide +kernel
theorem abc_w55 : sch abcM 55 = 2987358873#32 := by rw [sch_hi _ (by omega), show 55 - 2 = 53 from rfl, show 55 - 7 = 48 from rfl, show 55 - 15 = 40 from rfl, show 55 - 16 = 39 from rfl, abc_w53, abc_w48, abc_w40, abc_w39]; decide +kernel
theorem abc_w56 : sch abcM 56 = 4015503821#32 := by rw [sch_hi _ (by omega), show 56 - 2 = 54 from rfl, show 56 - 7 = 49 from rfl, show 56 - 15 = 41 from rfl, show 56 - 16 = 40 from rfl, abc_w54, abc_w49, abc_w41, abc_w40]; decide +kernel
theorem abc_w57 : sch abcM 57 = 3957764664#32 := by rw [sch_hi _ (by omega), show 57 - 2 = 55 from rfl, show 57 - 7 = 50 from rfl, show 57 - 15 = 42 from rfl, show 57 - 16 = 41 from rfl, abc_w55, abc_w50, abc_w42, abc_w41]; decide +kernel
theorem abc_w58 : sch abcM 58 = 2682456414#32 := by rw [sch_hi _ (by omega), show 58 - 2 = 56 from rfl, show 58 - 7 = 51 from rfl, show 58 - 15 = 43 from rfl, show 58 - 16 = 42 from rfl, abc_w56, abc_w51, abc_w43, abc_w42]; decide +kernel
theorem abc_w59 : sch abcM 59 = 2025622859#32 := by rw [sch_hi _ (by omega), show 59 - 2 = 57 from rfl, show 59 - 7 = 52 from rfl, show 59 - 15 = 44 from rfl, show 59 - 16 = 43 from rfl, abc_w57, abc_w52, abc_w44, abc_w43]; decide +kernel
theorem abc_w60 : sch abcM 60 = 2755645205#32 := by rw [sch_hi _ (by omega), show 60 - 2 = 58 from rfl, show 60 - 7 = 53 from rfl, show 60 - 15 = 45 from rfl, show 60 - 16 = 44 from rfl, abc_w58, abc_w53, abc_w45, abc_w44]; decide +kernel
theorem abc_w61 : sch abcM 61 = 1720397816#32 := by rw [sch_hi _ (by omega), show 61 - 2 = 59 from rfl, show 61 - 7 = 54 from rfl, show 61 - 15 = 46 from rfl, show 61 - 16 = 45 from rfl, abc_w59, abc_w54, abc_w46, abc_w45]; decide +kernel
theorem abc_w62 : sch abcM 62 = 4004225740#32 := by rw [sch_hi _ (by omega), show 62 - 2 = 60 from rfl, show 62 - 7 = 55 from rfl, show 62 - 15 = 47 from rfl, show 62 - 16 = 46 from rfl, abc_w60, abc_w55, abc_w47, abc_w46]; decide +kernel
theorem abc_w63 : sch abcM 63 = 313650667#32 := by rw [sch_hi _ (by omega), show 63 - 2 = 61 from rfl, show 63 - 7 = 56 from rfl, show 63 - 15 = 48 from rfl, show 63 - 16 = 47 from rfl, abc_w61, abc_w56, abc_w48, abc_w47]; decide +kernel
def abcV : V8 := ⟨1779033703#32, 3144134277#32, 1013904242#32, 2773480762#32, 1359893119#32, 2600822924#32, 528734635#32, 1541459225#32⟩
theorem abc_s0 : steps abcM abcV 0 = ⟨1779033703#32, 3144134277#32, 1013904242#32, 2773480762#32, 1359893119#32, 2600822924#32, 528734635#32, 1541459225#32⟩ := rfl
theorem abc_s1 : steps abcM abcV 1 = ⟨1567288269#32, 1779033703#32, 3144134277#32, 1013904242#32, 4197074466#32, 1359893119#32, 2600822924#32, 528734635#32⟩ := by
  have h1 : t1 ⟨1779033703#32, 3144134277#32, 1013904242#32, 2773480762#32, 1359893119#32, 2600822924#32, 528734635#32, 1541459225#32⟩ (kL.getD 0 0) 1633837952#32 = 1423593704#32 := by decide +kernel
  have h2 : t2 ⟨1779033703#32, 3144134277#32, 1013904242#32, 2773480762#32, 1359893119#32, 2600822924#32, 528734635#32, 1541459225#32⟩ = 143694565#32 := by decide +kernel
  show step (steps abcM abcV 0) (kL.getD 0 0) (sch abcM 0) = _
  rw [abc_s0, abc_w0]
  unfold step
  rw [h1, h2]
  rfl
theorem abc_s2 : steps abcM abcV 2 = ⟨1516951981#32, 1567288269#32, 1779033703#32, 3144134277#32, 2026797449#32, 4197074466#32, 1359893119#32, 2600822924#32⟩ := by
  have h1 : t1 ⟨1567288269#32, 1779033703#32, 3144134277#32, 1013904242#32, 4197074466#32, 1359893119#32, 2600822924#32, 528734635#32⟩ (kL.getD 1 0) 0#32 = 1012893207#32 := by decide +kernel
  have h2 : t2 ⟨1567288269#32, 1779033703#32, 3144134277#32, 1013904242#32, 4197074466#32, 1359893119#32, 2600822924#32, 528734635#32⟩ = 504058774#32 := by decide +kernel
  show step (steps abcM abcV 1) (kL.getD 1 0) (sch abcM 1) = _
  rw [abc_s1, abc_w1]
  unfold step
  rw [h1, h2]
  rfl
theorem abc_s3 : steps abcM abcV 3 = ⟨3368241063#32, 1516951981#32, 1567288269#32, 1779033703#32, 4180228587#32, 2026797449#32, 4197074466#32, 1359893119#32⟩ := by
  have h1 : t1 ⟨1516951981#32, 1567288269#32, 1779033703#32, 3144134277#32, 2026797449#32, 4197074466#32, 1359893119#32, 2600822924#32⟩ (kL.getD 2 0) 0#32 = 1036094310#32 := by decide +kernel
  have h2 : t2 ⟨1516951981#32, 1567288269#32, 1779033703#32, 3144134277#32, 2026797449#32, 4197074466#32, 1359893119#32, 2600822924#32⟩ = 2332146753#32 := by decide +kernel
  show step (steps abcM abcV 2) (kL.getD 2 0) (sch abcM 2) = _
  rw [abc_s2, abc_w2]
  unfold step
  rw [h1, h2]
  rfl
theorem abc_s4 : steps abcM abcV 4 = ⟨3578852966#32, 3368241063#32, 1516951981#32, 1567288269#32, 618661968#32, 4180228587#32, 2026797449#32, 4197074466#32⟩ := by
  have h1 : t1 ⟨3368241063#32, 1516951981#32, 1567288269#32, 1779033703#32, 4180228587#32, 2026797449#32, 4197074466#32, 1359893119#32⟩ (kL.getD 3 0) 0#32 = 3134595561#32 := by decide +kernel
  have h2 : t2 ⟨3368241063#32, 1516951981#32, 1567288269#32, 1779033703#32, 4180228587#32, 2026797449#32, 4197074466#32, 1359893119#32⟩ = 444257405#32 := by decide +kernel
  show step (steps abcM abcV 3) (kL.getD 3 0) (sch abcM 3) = _
  rw [abc_s3, abc_w3]
  unfold step
  rw [h1, h2]
  rfl
theorem abc_s5 : steps abcM abcV 5 = ⟨71342698#32, 3578852966#32, 3368241063#32, 1516951981#32, 1135452741#32, 618661968#32, 4180228587#32, 2026797449#32⟩ := by
  have h1 : t1 ⟨3578852966#32, 3368241063#32, 1516951981#32, 1567288269#32, 618661968#32, 4180228587#32, 2026797449#32, 4197074466#32⟩ (kL.getD 4 0) 0#32 = 3863131768#32 := by decide +kernel
  have h2 : t2 ⟨3578852966#32, 3368241063#32, 1516951981#32, 1567288269#32, 618661968#32, 4180228587#32, 2026797449#32, 4197074466#32⟩ = 503178226#32 := by decide +kernel
  show step (steps abcM abcV 4) (kL.getD 4 0) (sch abcM 4) = _
  rw [abc_s4, abc_w4]
  unfold step
  rw [h1, h2]
  rfl
theorem abc_s6 : steps abcM abcV 6 = ⟨725748213#32, 71342698#32, 3578852966#32, 3368241063#32, 1900175533#32, 1135452741#32, 618661968#32, 4180228587#32⟩ := by
  have h1 : t1 ⟨71342698#32, 3578852966#32, 3368241063#32, 1516951981#32, 1135452741#32, 618661968#32, 4180228587#32, 2026797449#32⟩ (kL.getD 5 0) 0#32 = 383223552#32 := by decide +kernel
  have h2 : t2 ⟨71342698#32, 3578852966#32, 3368241063#32, 1516951981#32, 1135452741#32, 618661968#32, 4180228587#32, 2026797449#32⟩ = 342524661#32 := by decide +kernel
  show step (steps abcM abcV 5) (kL.getD 5 0) (sch abcM 5) = _
  rw [abc_s5, abc_w5]
  unfold step
  rw [h1, h2]
  rfl
theorem abc_s7 : steps abcM abcV 7 = ⟨3842179968#32, 725748213#32, 71342698#32, 3578852966#32, 2603066369#32, 1900175533#32, 1135452741#32, 618661968#32⟩ := by
  have h1 : t1 ⟨725748213#32, 71342698#32, 3578852966#32, 3368241063#32, 1900175533#32, 1135452741#32, 618661968#32, 4180228587#32⟩ (kL.getD 6 0) 0#32 = 3529792602#32 := by decide +kernel
  have h2 : t2 ⟨725748213#32, 71342698#32, 3578852966#32, 3368241063#32, 1900175533#32, 1135452741#32, 618661968#32, 4180228587#32⟩ = 312387366#32 := by decide +kernel
  show step (steps abcM abcV 6) (kL.getD 6 0) (sch abcM 6) = _
  rw [abc_s6, abc_w6]
  unfold step
  rw [h1, h2]
  rfl
theorem abc_s8 : steps abcM abcV 8 = ⟨2241887071#32, 3842179968#32, 725748213#32, 71342698#32, 207977081#32, 2603066369#32, 1900175533#32, 1135452741#32⟩ := by
  have h1 : t1 ⟨3842179968#32, 725748213#32, 71342698#32, 3578852966#32, 2603066369#32, 1900175533#32, 1135452741#32, 618661968#32⟩ (kL.getD 7 0) 0#32 = 924091411#32 := by decide +kernel
  have h2 : t2 ⟨3842179968#32, 725748213#32, 71342698#32, 3578852966#32, 2603066369#32, 1900175533#32, 1135452741#32, 618661968#32⟩ = 1317795660#32 := by decide +kernel
  show step (steps abcM abcV 7) (kL.getD 7 0) (sch abcM 7) = _
  rw [abc_s7, abc_w7]
  unfold step
  rw [h1, h2]
  rfl
theorem abc_s9 : steps abcM abcV 9 = ⟨2382687417#32, 2241887071#32, 3842179968#32, 725748213#32, 852110732#32, 207977081#32, 2603066369#32, 1900175533#32⟩ := by
  have h1 : t1 ⟨2241887071#32, 3842179968#32, 725748213#32, 71342698#32, 207977081#32, 2603066369#32, 1900175533#32, 1135452741#32⟩ (kL.getD 8 0) 0#32 = 780768034#32 := by decide +kernel
  have h2 : t2 ⟨2241887071#32, 3842179968#32, 725748213#32, 71342698#32, 207977081#32, 2603066369#32, 1900175533#32, 1135452741#32⟩ = 1601919383#32 := by decide +kernel
  show step (steps abcM abcV 8) (kL.getD 8 0) (sch abcM 8) = _
  rw [abc_s8, abc_w8]
  unfold step
  rw [h1, h2]
  rfl
theorem abc_s10 : steps abcM abcV 10 = ⟨2357671019#32, 2382687417#32, 2241887071#32, 3842179968#32, 482944406#32, 852110732#32, 207977081#32, 2603066369#32⟩ := by
  have h1 : t1 ⟨2382687417#32, 2241887071#32, 3842179968#32, 725748213#32, 852110732#32, 207977081#32, 2603066369#32, 1900175533#32⟩ (kL.getD 9 0) 0#32 = 4052163489#32 := by decide +kernel
  have h2 : t2 ⟨2382687417#32, 2241887071#32, 3842179968#32, 725748213#32, 852110732#32, 207977081#32, 2603066369#32, 1900175533#32⟩ = 2600474826#32 := by decide +kernel
  show step (steps abcM abcV 9) (kL.getD 9 0) (sch abcM 9) = _
  rw [abc_s9, abc_w9]
  unfold step
  rw [h1, h2]
  rfl
theorem abc_s11 : steps abcM abcV 11 = ⟨1201185780#32, 2357671019#32, 2382687417#32, 2241887071#32, 1131095016#32, 482944406#32, 852110732#32, 207977081#32⟩ := by
  have h1 : t1 ⟨2357671019#32, 2382687417#32, 2241887071#32, 3842179968#32, 482944406#32, 852110732#32, 207977081#32, 2603066369#32⟩ (kL.getD 10 0) 0#32 = 1583882344#32 := by decide +kernel
  have h2 : t2 ⟨2357671019#32, 2382687417#32, 2241887071#32, 3842179968#32, 482944406#32, 852110732#32, 207977081#32, 2603066369#32⟩ = 3912270732#32 := by decide +kernel
  show step (steps abcM abcV 10) (kL.getD 10 0) (sch abcM 10) = _
  rw [abc_s10, abc_w10]
  unfold step
  rw [h1, h2]
  rfl
theorem abc_s12 : steps abcM abcV 12 = ⟨4146054569#32, 1201185780#32, 2357671019#32, 2382687417#32, 2171590377#32, 1131095016#32, 482944406#32, 852110732#32⟩ := by
  have h1 : t1 ⟨1201185780#32, 2357671019#32, 2382687417#32, 2241887071#32, 1131095016#32, 482944406#32, 852110732#32, 207977081#32⟩ (kL.getD 11 0) 0#32 = 4224670602#32 := by decide +kernel
  have h2 : t2 ⟨1201185780#32, 2357671019#32, 2382687417#32, 2241887071#32, 1131095016#32, 482944406#32, 852110732#32, 207977081#32⟩ = 4216351263#32 := by decide +kernel
  show step (steps abcM abcV 11) (kL.getD 11 0) (sch abcM 11) = _
  rw [abc_s11, abc_w11]
  unfold step
  rw [h1, h2]
  rfl
theorem abc_s13 : steps abcM abcV 13 = ⟨2274437520#32, 4146054569#32, 1201185780#32, 2357671019#32, 509051416#32, 2171590377#32, 1131095016#32, 482944406#32⟩ := by
  have h1 : t1 ⟨4146054569#32, 1201185780#32, 2357671019#32, 2382687417#32, 2171590377#32, 1131095016#32, 482944406#32, 852110732#32⟩ (kL.getD 12 0) 0#32 = 2421331295#32 := by decide +kernel
  have h2 : t2 ⟨4146054569#32, 1201185780#32, 2357671019#32, 2382687417#32, 2171590377#32, 1131095016#32, 482944406#32, 852110732#32⟩ = 4148073521#32 := by decide +kernel
  show step (steps abcM abcV 12) (kL.getD 12 0) (sch abcM 12) = _
  rw [abc_s12, abc_w12]
  unfold step
  rw [h1, h2]
  rfl
theorem abc_s14 : steps abcM abcV 14 = ⟨3643992854#32, 2274437520#32, 4146054569#32, 1201185780#32, 1952073950#32, 509051416#32, 2171590377#32, 1131095016#32⟩ := by
  have h1 : t1 ⟨2274437520#32, 4146054569#32, 1201185780#32, 2357671019#32, 509051416#32, 2171590377#32, 1131095016#32, 482944406#32⟩ (kL.getD 13 0) 0#32 = 3889370227#32 := by decide +kernel
  have h2 : t2 ⟨2274437520#32, 4146054569#32, 1201185780#32, 2357671019#32, 509051416#32, 2171590377#32, 1131095016#32, 482944406#32⟩ = 4049589923#32 := by decide +kernel
  show step (steps abcM abcV 13) (kL.getD 13 0) (sch abcM 13) = _
  rw [abc_s13, abc_w13]
  unfold step
  rw [h1, h2]
  rfl
theorem abc_s15 : steps abcM abcV 15 = ⟨3227803614#32, 3643992854#32, 2274437520#32, 4146054569#32, 194179596#32, 1952073950#32, 509051416#32, 2171590377#32⟩ := by
  have h1 : t1 ⟨3643992854#32, 2274437520#32, 4146054569#32, 1201185780#32, 1952073950#32, 509051416#32, 2171590377#32, 1131095016#32⟩ (kL.getD 14 0) 0#32 = 3287961112#32 := by decide +kernel
  have h2 : t2 ⟨3643992854#32, 2274437520#32, 4146054569#32, 1201185780#32, 1952073950#32, 509051416#32, 2171590377#32, 1131095016#32⟩ = 4234809798#32 := by decide +kernel
  show step (steps abcM abcV 14) (kL.getD 14 0) (sch abcM 14) = _
  rw [abc_s14, abc_w14]
  unfold step
  rw [h1, h2]
  rfl
theorem abc_s16 : steps abcM abcV 16 = ⟨2969183118#32, 3227803614#32, 3643992854#32, 2274437520#32, 123276749#32, 194179596#32, 1952073950#32, 509051416#32⟩ := by
  have h1 : t1 ⟨3227803614#32, 3643992854#32, 2274437520#32, 4146054569#32, 194179596#32, 1952073950#32, 509051416#32, 2171590377#32⟩ (kL.getD 15 0) 24#32 = 272189476#32 := by decide +kernel
  have h2 : t2 ⟨3227803614#32, 3643992854#32, 2274437520#32, 4146054569#32, 194179596#32, 1952073950#32, 509051416#32, 2171590377#32⟩ = 2696993642#32 := by decide +kernel
  show step (steps abcM abcV 15) (kL.getD 15 0) (sch abcM 15) = _
  rw [abc_s15, abc_w15]
  unfold step
  rw [h1, h2]
  rfl
theorem abc_s17 : steps abcM abcV 17 = ⟨567974555#32, 2969183118#32, 3227803614#32, 3643992854#32, 2150900380#32, 123276749#32, 194179596#32, 1952073950#32⟩ := by
  have h1 : t1 ⟨2969183118#32, 3227803614#32, 3643992854#32, 2274437520#32, 123276749#32, 194179596#32, 1952073950#32, 509051416#32⟩ (kL.getD 16 0) 1633837952#32 = 4171430156#32 := by decide +kernel
  have h2 : t2 ⟨2969183118#32, 3227803614#32, 3643992854#32, 2274437520#32, 123276749#32, 194179596#32, 1952073950#32, 509051416#32⟩ = 691511695#32 := by decide +kernel
  show step (steps abcM abcV 16) (kL.getD 16 0) (sch abcM 16) = _
  rw [abc_s16, abc_w16]
  unfold step
  rw [h1, h2]
  rfl
theorem abc_s18 : steps abcM abcV 18 = ⟨3271285201#32, 567974555#32, 2969183118#32, 3227803614#32, 2221859924#32, 2150900380#32, 123276749#32, 194179596#32⟩ := by
  have h1 : t1 ⟨567974555#32, 2969183118#32, 3227803614#32, 3643992854#32, 2150900380#32, 123276749#32, 194179596#32, 1952073950#32⟩ (kL.getD 17 0) 983040#32 = 2872834366#32 := by decide +kernel
  have h2 : t2 ⟨567974555#32, 2969183118#32, 3227803614#32, 3643992854#32, 2150900380#32, 123276749#32, 194179596#32, 1952073950#32⟩ = 398450835#32 := by decide +kernel
  show step (steps abcM abcV 17) (kL.getD 17 0) (sch abcM 17) = _
  rw [abc_s17, abc_w17]
  unfold step
  rw [h1, h2]
  rfl
theorem abc_s19 : steps abcM abcV 19 = ⟨4269243327#32, 3271285201#32, 567974555#32, 2969183118#32, 3431569761#32, 2221859924#32, 2150900380#32, 123276749#32⟩ := by
  have h1 : t1 ⟨3271285201#32, 567974555#32, 2969183118#32, 3227803614#32, 2221859924#32, 2150900380#32, 123276749#32, 194179596#32⟩ (kL.getD 18 0) 2108187653#32 = 203766147#32 := by decide +kernel
  have h2 : t2 ⟨3271285201#32, 567974555#32, 2969183118#32, 3227803614#32, 2221859924#32, 2150900380#32, 123276749#32, 194179596#32⟩ = 4065477180#32 := by decide +kernel
  show step (steps abcM abcV 18) (kL.getD 18 0) (sch abcM 18) = _
  rw [abc_s18, abc_w18]
  unfold step
  rw [h1, h2]
  rfl
theorem abc_s20 : steps abcM abcV 20 = ⟨3790736435#32, 4269243327#32, 3271285201#32, 567974555#32, 2959311225#32, 3431569761#32, 2221859924#32, 2150900380#32⟩ := by
  have h1 : t1 ⟨4269243327#32, 3271285201#32, 567974555#32, 2969183118#32, 3431569761#32, 2221859924#32, 2150900380#32, 123276749#32⟩ (kL.getD 19 0) 1610613702#32 = 4285095403#32 := by decide +kernel
  have h2 : t2 ⟨4269243327#32, 3271285201#32, 567974555#32, 2969183118#32, 3431569761#32, 2221859924#32, 2150900380#32, 123276749#32⟩ = 3800608328#32 := by decide +kernel
  show step (steps abcM abcV 19) (kL.getD 19 0) (sch abcM 19) = _
  rw [abc_s19, abc_w19]
  unfold step
  rw [h1, h2]
  rfl
theorem abc_s21 : steps abcM abcV 21 = ⟨2647034723#32, 3790736435#32, 4269243327#32, 3271285201#32, 2329577776#32, 2959311225#32, 3431569761#32, 2221859924#32⟩ := by
  have h1 : t1 ⟨3790736435#32, 4269243327#32, 3271285201#32, 567974555#32, 2959311225#32, 3431569761#32, 2221859924#32, 2150900380#32⟩ (kL.getD 20 0) 1050508152#32 = 1761603221#32 := by decide +kernel
  have h2 : t2 ⟨3790736435#32, 4269243327#32, 3271285201#32, 567974555#32, 2959311225#32, 3431569761#32, 2221859924#32, 2150900380#32⟩ = 885431502#32 := by decide +kernel
  show step (steps abcM abcV 20) (kL.getD 20 0) (sch abcM 20) = _
  rw [abc_s20, abc_w20]
  unfold step
  rw [h1, h2]
  rfl
theorem abc_s22 : steps abcM abcV 22 = ⟨3261099373#32, 2647034723#32, 3790736435#32, 4269243327#32, 3777329520#32, 2329577776#32, 2959311225#32, 3431569761#32⟩ := by
  have h1 : t1 ⟨2647034723#32, 3790736435#32, 4269243327#32, 3271285201#32, 2329577776#32, 2959311225#32, 3431569761#32, 2221859924#32⟩ (kL.getD 21 0) 25426944#32 = 506044319#32 := by decide +kernel
  have h2 : t2 ⟨2647034723#32, 3790736435#32, 4269243327#32, 3271285201#32, 2329577776#32, 2959311225#32, 3431569761#32, 2221859924#32⟩ = 2755055054#32 := by decide +kernel
  show step (steps abcM abcV 21) (kL.getD 21 0) (sch abcM 21) = _
  rw [abc_s21, abc_w21]
  unfold step
  rw [h1, h2]
  rfl
theorem abc_s23 : steps abcM abcV 23 = ⟨2812502591#32, 3261099373#32, 2647034723#32, 3790736435#32, 1240797514#32, 3777329520#32, 2329577776#32, 2959311225#32⟩ := by
  have h1 : t1 ⟨3261099373#32, 2647034723#32, 3790736435#32, 4269243327#32, 3777329520#32, 2329577776#32, 2959311225#32, 3431569761#32⟩ (kL.getD 22 0) 316456923#32 = 1266521483#32 := by decide +kernel
  have h2 : t2 ⟨3261099373#32, 2647034723#32, 3790736435#32, 4269243327#32, 3777329520#32, 2329577776#32, 2959311225#32, 3431569761#32⟩ = 1545981108#32 := by decide +kernel
  show step (steps abcM abcV 22) (kL.getD 22 0) (sch abcM 22) = _
  rw [abc_s22, abc_w22]
  unfold step
  rw [h1, h2]
  rfl
theorem abc_s24 : steps abcM abcV 24 = ⟨3319086477#32, 2812502591#32, 3261099373#32, 2647034723#32, 2856829767#32, 1240797514#32, 3777329520#32, 2329577776#32⟩ := by
  have h1 : t1 ⟨2812502591#32, 3261099373#32, 2647034723#32, 3790736435#32, 1240797514#32, 3777329520#32, 2329577776#32, 2959311225#32⟩ (kL.getD 23 0) 3806512014#32 = 3361060628#32 := by decide +kernel
  have h2 : t2 ⟨2812502591#32, 3261099373#32, 2647034723#32, 3790736435#32, 1240797514#32, 3777329520#32, 2329577776#32, 2959311225#32⟩ = 4252993145#32 := by decide +kernel
  show step (steps abcM abcV 23) (kL.getD 23 0) (sch abcM 23) = _
  rw [abc_s23, abc_w23]
  unfold step
  rw [h1, h2]
  rfl
theorem abc_s25 : steps abcM abcV 25 = ⟨472655928#32, 3319086477#32, 2812502591#32, 3261099373#32, 673443729#32, 2856829767#32, 1240797514#32, 3777329520#32⟩ := by
  have h1 : t1 ⟨3319086477#32, 2812502591#32, 3261099373#32, 2647034723#32, 2856829767#32, 1240797514#32, 3777329520#32, 2329577776#32⟩ (kL.getD 24 0) 3357629466#32 = 2321376302#32 := by decide +kernel
  have h2 : t2 ⟨3319086477#32, 2812502591#32, 3261099373#32, 2647034723#32, 2856829767#32, 1240797514#32, 3777329520#32, 2329577776#32⟩ = 2446246922#32 := by decide +kernel
  show step (steps abcM abcV 24) (kL.getD 24 0) (sch abcM 24) = _
  rw [abc_s24, abc_w24]
  unfold step
  rw [h1, h2]
  rfl
theorem abc_s26 : steps abcM abcV 26 = ⟨3454534525#32, 472655928#32, 3319086477#32, 2812502591#32, 339230094#32, 673443729#32, 2856829767#32, 1240797514#32⟩ := by
  have h1 : t1 ⟨472655928#32, 3319086477#32, 2812502591#32, 3261099373#32, 673443729#32, 2856829767#32, 1240797514#32, 3777329520#32⟩ (kL.getD 25 0) 3073800610#32 = 1373098017#32 := by decide +kernel
  have h2 : t2 ⟨472655928#32, 3319086477#32, 2812502591#32, 3261099373#32, 673443729#32, 2856829767#32, 1240797514#32, 3777329520#32⟩ = 2081436508#32 := by decide +kernel
  show step (steps abcM abcV 25) (kL.getD 25 0) (sch abcM 25) = _
  rw [abc_s25, abc_w25]
  unfold step
  rw [h1, h2]
  rfl
theorem abc_s27 : steps abcM abcV 27 = ⟨3056518332#32, 3454534525#32, 472655928#32, 3319086477#32, 3343672598#32, 339230094#32, 673443729#32, 2856829767#32⟩ := by
  have h1 : t1 ⟨3454534525#32, 472655928#32, 3319086477#32, 2812502591#32, 339230094#32, 673443729#32, 2856829767#32, 1240797514#32⟩ (kL.getD 26 0) 3854317833#32 = 531170007#32 := by decide +kernel
  have h2 : t2 ⟨3454534525#32, 472655928#32, 3319086477#32, 2812502591#32, 339230094#32, 673443729#32, 2856829767#32, 1240797514#32⟩ = 2525348325#32 := by decide +kernel
  show step (steps abcM abcV 26) (kL.getD 26 0) (sch abcM 26) = _
  rw [abc_s26, abc_w26]
  unfold step
  rw [h1, h2]
  rfl
theorem abc_s28 : steps abcM abcV 28 = ⟨2010346792#32, 3056518332#32, 3454534525#32, 472655928#32, 3992961016#32, 3343672598#32, 339230094#32, 673443729#32⟩ := by
  have h1 : t1 ⟨3056518332#32, 3454534525#32, 472655928#32, 3319086477#32, 3343672598#32, 339230094#32, 673443729#32, 2856829767#32⟩ (kL.getD 27 0) 845560923#32 = 673874539#32 := by decide +kernel
  have h2 : t2 ⟨3056518332#32, 3454534525#32, 472655928#32, 3319086477#32, 3343672598#32, 339230094#32, 673443729#32, 2856829767#32⟩ = 1336472253#32 := by decide +kernel
  show step (steps abcM abcV 27) (kL.getD 27 0) (sch abcM 27) = _
  rw [abc_s27, abc_w27]
  unfold step
  rw [h1, h2]
  rfl
theorem abc_s29 : steps abcM abcV 29 = ⟨909411017#32, 2010346792#32, 3056518332#32, 3454534525#32, 1628611511#32, 3992961016#32, 3343672598#32, 339230094#32⟩ := by
  have h1 : t1 ⟨2010346792#32, 3056518332#32, 3454534525#32, 472655928#32, 3992961016#32, 3343672598#32, 339230094#32, 673443729#32⟩ (kL.getD 28 0) 2636160359#32 = 1155955583#32 := by decide +kernel
  have h2 : t2 ⟨2010346792#32, 3056518332#32, 3454534525#32, 472655928#32, 3992961016#32, 3343672598#32, 339230094#32, 673443729#32⟩ = 4048422730#32 := by decide +kernel
  show step (steps abcM abcV 28) (kL.getD 28 0) (sch abcM 28) = _
  rw [abc_s28, abc_w28]
  unfold step
  rw [h1, h2]
  rfl
theorem abc_s30 : steps abcM abcV 30 = ⟨2684750640#32, 909411017#32, 2010346792#32, 3056518332#32, 2917635127#32, 1628611511#32, 3992961016#32, 3343672598#32⟩ := by
  have h1 : t1 ⟨909411017#32, 2010346792#32, 3056518332#32, 3454534525#32, 1628611511#32, 3992961016#32, 3343672598#32, 339230094#32⟩ (kL.getD 29 0) 3968280267#32 = 3758067898#32 := by decide +kernel
  have h2 : t2 ⟨909411017#32, 2010346792#32, 3056518332#32, 3454534525#32, 1628611511#32, 3992961016#32, 3343672598#32, 339230094#32⟩ = 3221650038#32 := by decide +kernel
  show step (steps abcM abcV 29) (kL.getD 29 0) (sch abcM 29) = _
  rw [abc_s29, abc_w29]
  unfold step
  rw [h1, h2]
  rfl
theorem abc_s31 : steps abcM abcV 31 = ⟨3935906338#32, 2684750640#32, 909411017#32, 2010346792#32, 17410874#32, 2917635127#32, 1628611511#32, 3992961016#32⟩ := by
  have h1 : t1 ⟨2684750640#32, 909411017#32, 2010346792#32, 3056518332#32, 2917635127#32, 1628611511#32, 3992961016#32, 3343672598#32⟩ (kL.getD 30 0) 1881225380#32 = 1255859838#32 := by decide +kernel
  have h2 : t2 ⟨2684750640#32, 909411017#32, 2010346792#32, 3056518332#32, 2917635127#32, 1628611511#32, 3992961016#32, 3343672598#32⟩ = 2680046500#32 := by decide +kernel
  show step (steps abcM abcV 30) (kL.getD 30 0) (sch abcM 30) = _
  rw [abc_s30, abc_w30]
  unfold step
  rw [h1, h2]
  rfl
theorem abc_s32 : steps abcM abcV 32 = ⟨1941126133#32, 3935906338#32, 2684750640#32, 909411017#32, 3126399250#32, 17410874#32, 2917635127#32, 1628611511#32⟩ := by
  have h1 : t1 ⟨3935906338#32, 2684750640#32, 909411017#32, 2010346792#32, 17410874#32, 2917635127#32, 1628611511#32, 3992961016#32⟩ (kL.getD 31 0) 3552024379#32 = 1116052458#32 := by decide +kernel
  have h2 : t2 ⟨3935906338#32, 2684750640#32, 909411017#32, 2010346792#32, 17410874#32, 2917635127#32, 1628611511#32, 3992961016#32⟩ = 825073675#32 := by decide +kernel
  show step (steps abcM abcV 31) (kL.getD 31 0) (sch abcM 31) = _
  rw [abc_s31, abc_w31]
  unfold step
  rw [h1, h2]
  rfl
theorem abc_s33 : steps abcM abcV 33 = ⟨2564891911#32, 1941126133#32, 3935906338#32, 2684750640#32, 2631529974#32, 3126399250#32, 17410874#32, 2917635127#32⟩ := by
  have h1 : t1 ⟨1941126133#32, 3935906338#32, 2684750640#32, 909411017#32, 3126399250#32, 17410874#32, 2917635127#32, 1628611511#32⟩ (kL.getD 32 0) 2482346367#32 = 1722118957#32 := by decide +kernel
  have h2 : t2 ⟨1941126133#32, 3935906338#32, 2684750640#32, 909411017#32, 3126399250#32, 17410874#32, 2917635127#32, 1628611511#32⟩ = 842772954#32 := by decide +kernel
  show step (steps abcM abcV 32) (kL.getD 32 0) (sch abcM 32) = _
  rw [abc_s32, abc_w32]
  unfold step
  rw [h1, h2]
  rfl
theorem abc_s34 : steps abcM abcV 34 = ⟨4267724277#32, 2564891911#32, 1941126133#32, 3935906338#32, 1495571923#32, 2631529974#32, 3126399250#32, 17410874#32⟩ := by
  have h1 : t1 ⟨2564891911#32, 1941126133#32, 3935906338#32, 2684750640#32, 2631529974#32, 3126399250#32, 17410874#32, 2917635127#32⟩ (kL.getD 33 0) 996719219#32 = 3105788579#32 := by decide +kernel
  have h2 : t2 ⟨2564891911#32, 1941126133#32, 3935906338#32, 2684750640#32, 2631529974#32, 3126399250#32, 17410874#32, 2917635127#32⟩ = 1161935698#32 := by decide +kernel
  show step (steps abcM abcV 33) (kL.getD 33 0) (sch abcM 33) = _
  rw [abc_s33, abc_w33]
  unfold step
  rw [h1, h2]
  rfl
theorem abc_s35 : steps abcM abcV 35 = ⟨2846323596#32, 4267724277#32, 2564891911#32, 1941126133#32, 140458035#32, 1495571923#32, 2631529974#32, 3126399250#32⟩ := by
  have h1 : t1 ⟨4267724277#32, 2564891911#32, 1941126133#32, 3935906338#32, 1495571923#32, 2631529974#32, 3126399250#32, 17410874#32⟩ (kL.getD 34 0) 2952069057#32 = 499518993#32 := by decide +kernel
  have h2 : t2 ⟨4267724277#32, 2564891911#32, 1941126133#32, 3935906338#32, 1495571923#32, 2631529974#32, 3126399250#32, 17410874#32⟩ = 2346804603#32 := by decide +kernel
  show step (steps abcM abcV 34) (kL.getD 34 0) (sch abcM 34) = _
  rw [abc_s34, abc_w34]
  unfold step
  rw [h1, h2]
  rfl
theorem abc_s36 : steps abcM abcV 36 = ⟨1705037796#32, 2846323596#32, 4267724277#32, 2564891911#32, 4105175766#32, 140458035#32, 1495571923#32, 2631529974#32⟩ := by
  have h1 : t1 ⟨2846323596#32, 4267724277#32, 2564891911#32, 1941126133#32, 140458035#32, 1495571923#32, 2631529974#32, 3126399250#32⟩ (kL.getD 35 0) 4043988066#32 = 2164049633#32 := by decide +kernel
  have h2 : t2 ⟨2846323596#32, 4267724277#32, 2564891911#32, 1941126133#32, 140458035#32, 1495571923#32, 2631529974#32, 3126399250#32⟩ = 3835955459#32 := by decide +kernel
  show step (steps abcM abcV 35) (kL.getD 35 0) (sch abcM 35) = _
  rw [abc_s35, abc_w35]
  unfold step
  rw [h1, h2]
  rfl
theorem abc_s37 : steps abcM abcV 37 = ⟨1101421745#32, 1705037796#32, 2846323596#32, 4267724277#32, 124953195#32, 4105175766#32, 140458035#32, 1495571923#32⟩ := by
  have h1 : t1 ⟨1705037796#32, 2846323596#32, 4267724277#32, 2564891911#32, 4105175766#32, 140458035#32, 1495571923#32, 2631529974#32⟩ (kL.getD 36 0) 176896406#32 = 1855028580#32 := by decide +kernel
  have h2 : t2 ⟨1705037796#32, 2846323596#32, 4267724277#32, 2564891911#32, 4105175766#32, 140458035#32, 1495571923#32, 2631529974#32⟩ = 3541360461#32 := by decide +kernel
  show step (steps abcM abcV 36) (kL.getD 36 0) (sch abcM 36) = _
  rw [abc_s36, abc_w36]
  unfold step
  rw [h1, h2]
  rfl
theorem abc_s38 : steps abcM abcV 38 = ⟨887035396#32, 1101421745#32, 1705037796#32, 2846323596#32, 2768741693#32, 124953195#32, 4105175766#32, 140458035#32⟩ := by
  have h1 : t1 ⟨1101421745#32, 1705037796#32, 2846323596#32, 4267724277#32, 124953195#32, 4105175766#32, 140458035#32, 1495571923#32⟩ (kL.getD 37 0) 1924104970#32 = 2795984712#32 := by decide +kernel
  have h2 : t2 ⟨1101421745#32, 1705037796#32, 2846323596#32, 4267724277#32, 124953195#32, 4105175766#32, 140458035#32, 1495571923#32⟩ = 2386017980#32 := by decide +kernel
  show step (steps abcM abcV 37) (kL.getD 37 0) (sch abcM 37) = _
  rw [abc_s37, abc_w37]
  unfold step
  rw [h1, h2]
  rfl
theorem abc_s39 : steps abcM abcV 39 = ⟨1841658506#32, 887035396#32, 1101421745#32, 1705037796#32, 4034403272#32, 2768741693#32, 124953195#32, 4105175766#32⟩ := by
  have h1 : t1 ⟨887035396#32, 1101421745#32, 1705037796#32, 2846323596#32, 2768741693#32, 124953195#32, 4105175766#32, 140458035#32⟩ (kL.getD 38 0) 2483675966#32 = 1188079676#32 := by decide +kernel
  have h2 : t2 ⟨887035396#32, 1101421745#32, 1705037796#32, 2846323596#32, 2768741693#32, 124953195#32, 4105175766#32, 140458035#32⟩ = 653578830#32 := by decide +kernel
  show step (steps abcM abcV 38) (kL.getD 38 0) (sch abcM 38) = _
  rw [abc_s38, abc_w38]
  unfold step
  rw [h1, h2]
  rfl
theorem abc_s40 : steps abcM abcV 40 = ⟨2045405306#32, 1841658506#32, 887035396#32, 1101421745#32, 519815328#32, 4034403272#32, 2768741693#32, 124953195#32⟩ := by
  have h1 : t1 ⟨1841658506#32, 887035396#32, 1101421745#32, 1705037796#32, 4034403272#32, 2768741693#32, 124953195#32, 4105175766#32⟩ (kL.getD 39 0) 610538786#32 = 3109744828#32 := by decide +kernel
  have h2 : t2 ⟨1841658506#32, 887035396#32, 1101421745#32, 1705037796#32, 4034403272#32, 2768741693#32, 124953195#32, 4105175766#32⟩ = 3230627774#32 := by decide +kernel
  show step (steps abcM abcV 39) (kL.getD 39 0) (sch abcM 39) = _
  rw [abc_s39, abc_w39]
  unfold step
  rw [h1, h2]
  rfl
theorem abc_s41 : steps abcM abcV 41 = ⟨3597076326#32, 2045405306#32, 1841658506#32, 887035396#32, 641019235#32, 519815328#32, 4034403272#32, 2768741693#32⟩ := by
  have h1 : t1 ⟨2045405306#32, 1841658506#32, 887035396#32, 1101421745#32, 519815328#32, 4034403272#32, 2768741693#32, 124953195#32⟩ (kL.getD 40 0) 2672279444#32 = 3834564786#32 := by decide +kernel
  have h2 : t2 ⟨2045405306#32, 1841658506#32, 887035396#32, 1101421745#32, 519815328#32, 4034403272#32, 2768741693#32, 124953195#32⟩ = 4057478836#32 := by decide +kernel
  show step (steps abcM abcV 40) (kL.getD 40 0) (sch abcM 40) = _
  rw [abc_s40, abc_w40]
  unfold step
  rw [h1, h2]
  rfl
theorem abc_s42 : steps abcM abcV 42 = ⟨3745932591#32, 3597076326#32, 2045405306#32, 1841658506#32, 2206934801#32, 641019235#32, 519815328#32, 4034403272#32⟩ := by
  have h1 : t1 ⟨3597076326#32, 2045405306#32, 1841658506#32, 887035396#32, 641019235#32, 519815328#32, 4034403272#32, 2768741693#32⟩ (kL.getD 41 0) 4037431130#32 = 1319899405#32 := by decide +kernel
  have h2 : t2 ⟨3597076326#32, 2045405306#32, 1841658506#32, 887035396#32, 641019235#32, 519815328#32, 4034403272#32, 2768741693#32⟩ = 2426033186#32 := by decide +kernel
  show step (steps abcM abcV 41) (kL.getD 41 0) (sch abcM 41) = _
  rw [abc_s41, abc_w41]
  unfold step
  rw [h1, h2]
  rfl
theorem abc_s43 : steps abcM abcV 43 = ⟨397020670#32, 3745932591#32, 3597076326#32, 2045405306#32, 3737995029#32, 2206934801#32, 641019235#32, 519815328#32⟩ := by
  have h1 : t1 ⟨3745932591#32, 3597076326#32, 2045405306#32, 1841658506#32, 2206934801#32, 641019235#32, 519815328#32, 4034403272#32⟩ (kL.getD 42 0) 1042573945#32 = 1896336523#32 := by decide +kernel
  have h2 : t2 ⟨3745932591#32, 3597076326#32, 2045405306#32, 1841658506#32, 2206934801#32, 641019235#32, 519815328#32, 4034403272#32⟩ = 2795651443#32 := by decide +kernel
  show step (steps abcM abcV 42) (kL.getD 42 0) (sch abcM 42) = _
  rw [abc_s42, abc_w42]
  unfold step
  rw [h1, h2]
  rfl
theorem abc_s44 : steps abcM abcV 44 = ⟨2638983059#32, 397020670#32, 3745932591#32, 3597076326#32, 4255271982#32, 3737995029#32, 2206934801#32, 641019235#32⟩ := by
  have h1 : t1 ⟨397020670#32, 3745932591#32, 3597076326#32, 2045405306#32, 3737995029#32, 2206934801#32, 641019235#32, 519815328#32⟩ (kL.getD 43 0) 657669027#32 = 2209866676#32 := by decide +kernel
  have h2 : t2 ⟨397020670#32, 3745932591#32, 3597076326#32, 2045405306#32, 3737995029#32, 2206934801#32, 641019235#32, 519815328#32⟩ = 429116383#32 := by decide +kernel
  show step (steps abcM abcV 43) (kL.getD 43 0) (sch abcM 43) = _
  rw [abc_s43, abc_w43]
  unfold step
  rw [h1, h2]
  rfl
theorem abc_s45 : steps abcM abcV 45 = ⟨643991573#32, 2638983059#32, 397020670#32, 3745932591#32, 2819559920#32, 4255271982#32, 3737995029#32, 2206934801#32⟩ := by
  have h1 : t1 ⟨2638983059#32, 397020670#32, 3745932591#32, 3597076326#32, 4255271982#32, 3737995029#32, 2206934801#32, 641019235#32⟩ (kL.getD 44 0) 206005234#32 = 3517450890#32 := by decide +kernel
  have h2 : t2 ⟨2638983059#32, 397020670#32, 3745932591#32, 3597076326#32, 4255271982#32, 3737995029#32, 2206934801#32, 641019235#32⟩ = 1421507979#32 := by decide +kernel
  show step (steps abcM abcV 44) (kL.getD 44 0) (sch abcM 44) = _
  rw [abc_s44, abc_w44]
  unfold step
  rw [h1, h2]
  rfl
theorem abc_s46 : steps abcM abcV 46 = ⟨1923828625#32, 643991573#32, 2638983059#32, 397020670#32, 3077922209#32, 2819559920#32, 4255271982#32, 3737995029#32⟩ := by
  have h1 : t1 ⟨643991573#32, 2638983059#32, 397020670#32, 3745932591#32, 2819559920#32, 4255271982#32, 3737995029#32, 2206934801#32⟩ (kL.getD 45 0) 2215296807#32 = 3626956914#32 := by decide +kernel
  have h2 : t2 ⟨643991573#32, 2638983059#32, 397020670#32, 3745932591#32, 2819559920#32, 4255271982#32, 3737995029#32, 2206934801#32⟩ = 2591839007#32 := by decide +kernel
  show step (steps abcM abcV 45) (kL.getD 45 0) (sch abcM 45) = _
  rw [abc_s45, abc_w45]
  unfold step
  rw [h1, h2]
  rfl
theorem abc_s47 : steps abcM abcV 47 = ⟨2706117808#32, 1923828625#32, 643991573#32, 2638983059#32, 3581645993#32, 3077922209#32, 2819559920#32, 4255271982#32⟩ := by
  have h1 : t1 ⟨1923828625#32, 643991573#32, 2638983059#32, 397020670#32, 3077922209#32, 2819559920#32, 4255271982#32, 3737995029#32⟩ (kL.getD 46 0) 2049510749#32 = 3184625323#32 := by decide +kernel
  have h2 : t2 ⟨1923828625#32, 643991573#32, 2638983059#32, 397020670#32, 3077922209#32, 2819559920#32, 4255271982#32, 3737995029#32⟩ = 3816459781#32 := by decide +kernel
  show step (steps abcM abcV 46) (kL.getD 46 0) (sch abcM 46) = _
  rw [abc_s46, abc_w46]
  unfold step
  rw [h1, h2]
  rfl
theorem abc_s48 : steps abcM abcV 48 = ⟨1098003085#32, 2706117808#32, 1923828625#32, 643991573#32, 4274981830#32, 3581645993#32, 3077922209#32, 2819559920#32⟩ := by
  have h1 : t1 ⟨2706117808#32, 1923828625#32, 643991573#32, 2638983059#32, 3581645993#32, 3077922209#32, 2819559920#32, 4255271982#32⟩ (kL.getD 47 0) 106709978#32 = 1635998771#32 := by decide +kernel
  have h2 : t2 ⟨2706117808#32, 1923828625#32, 643991573#32, 2638983059#32, 3581645993#32, 3077922209#32, 2819559920#32, 4255271982#32⟩ = 3756971610#32 := by decide +kernel
  show step (steps abcM abcV 47) (kL.getD 47 0) (sch abcM 47) = _
  rw [abc_s47, abc_w47]
  unfold step
  rw [h1, h2]
  rfl
theorem abc_s49 : steps abcM abcV 49 = ⟨91585771#32, 1098003085#32, 2706117808#32, 1923828625#32, 3178315832#32, 4274981830#32, 3581645993#32, 3077922209#32⟩ := by
  have h1 : t1 ⟨1098003085#32, 2706117808#32, 1923828625#32, 643991573#32, 4274981830#32, 3581645993#32, 3077922209#32, 2819559920#32⟩ (kL.getD 48 0) 4215179723#32 = 2534324259#32 := by decide +kernel
  have h2 : t2 ⟨1098003085#32, 2706117808#32, 1923828625#32, 643991573#32, 4274981830#32, 3581645993#32, 3077922209#32, 2819559920#32⟩ = 1852228808#32 := by decide +kernel
  show step (steps abcM abcV 48) (kL.getD 48 0) (sch abcM 48) = _
  rw [abc_s48, abc_w48]
  unfold step
  rw [h1, h2]
  rfl
theorem abc_s50 : steps abcM abcV 50 = ⟨4045142696#32, 91585771#32, 1098003085#32, 2706117808#32, 1851537676#32, 3178315832#32, 4274981830#32, 3581645993#32⟩ := by
  have h1 : t1 ⟨91585771#32, 1098003085#32, 2706117808#32, 1923828625#32, 3178315832#32, 4274981830#32, 3581645993#32, 3077922209#32⟩ (kL.getD 49 0) 3430291419#32 = 4222676347#32 := by decide +kernel
  have h2 : t2 ⟨91585771#32, 1098003085#32, 2706117808#32, 1923828625#32, 3178315832#32, 4274981830#32, 3581645993#32, 3077922209#32⟩ = 4117433645#32 := by decide +kernel
  show step (steps abcM abcV 49) (kL.getD 49 0) (sch abcM 49) = _
  rw [abc_s49, abc_w49]
  unfold step
  rw [h1, h2]
  rfl
theorem abc_s51 : steps abcM abcV 51 = ⟨2047150241#32, 4045142696#32, 91585771#32, 1098003085#32, 1391578359#32, 1851537676#32, 3178315832#32, 4274981830#32⟩ := by
  have h1 : t1 ⟨4045142696#32, 91585771#32, 1098003085#32, 2706117808#32, 1851537676#32, 3178315832#32, 4274981830#32, 3581645993#32⟩ (kL.getD 50 0) 3118885940#32 = 2980427847#32 := by decide +kernel
  have h2 : t2 ⟨4045142696#32, 91585771#32, 1098003085#32, 2706117808#32, 1851537676#32, 3178315832#32, 4274981830#32, 3581645993#32⟩ = 3361689690#32 := by decide +kernel
  show step (steps abcM abcV 50) (kL.getD 50 0) (sch abcM 50) = _
  rw [abc_s50, abc_w50]
  unfold step
  rw [h1, h2]
  rfl
theorem abc_s52 : steps abcM abcV 52 = ⟨2288941602#32, 2047150241#32, 4045142696#32, 91585771#32, 1227037726#32, 1391578359#32, 1851537676#32, 3178315832#32⟩ := by
  have h1 : t1 ⟨2047150241#32, 4045142696#32, 91585771#32, 1098003085#32, 1391578359#32, 1851537676#32, 3178315832#32, 4274981830#32⟩ (kL.getD 51 0) 2845390439#32 = 129034641#32 := by decide +kernel
  have h2 : t2 ⟨2047150241#32, 4045142696#32, 91585771#32, 1098003085#32, 1391578359#32, 1851537676#32, 3178315832#32, 4274981830#32⟩ = 2159906961#32 := by decide +kernel
  show step (steps abcM abcV 51) (kL.getD 51 0) (sch abcM 51) = _
  rw [abc_s51, abc_w51]
  unfold step
  rw [h1, h2]
  rfl
theorem abc_s53 : steps abcM abcV 53 = ⟨270520975#32, 2288941602#32, 2047150241#32, 4045142696#32, 1386118400#32, 1227037726#32, 1391578359#32, 1851537676#32⟩ := by
  have h1 : t1 ⟨2288941602#32, 2047150241#32, 4045142696#32, 91585771#32, 1227037726#32, 1391578359#32, 1851537676#32, 3178315832#32⟩ (kL.getD 52 0) 2226839261#32 = 1294532629#32 := by decide +kernel
  have h2 : t2 ⟨2288941602#32, 2047150241#32, 4045142696#32, 91585771#32, 1227037726#32, 1391578359#32, 1851537676#32, 3178315832#32⟩ = 3270955642#32 := by decide +kernel
  show step (steps abcM abcV 52) (kL.getD 52 0) (sch abcM 52) = _
  rw [abc_s52, abc_w52]
  unfold step
  rw [h1, h2]
  rfl
theorem abc_s54 : steps abcM abcV 54 = ⟨4117770203#32, 270520975#32, 2288941602#32, 2047150241#32, 2672265155#32, 1386118400#32, 1227037726#32, 1391578359#32⟩ := by
  have h1 : t1 ⟨270520975#32, 2288941602#32, 2047150241#32, 4045142696#32, 1386118400#32, 1227037726#32, 1391578359#32, 1851537676#32⟩ (kL.getD 53 0) 3256115900#32 = 2922089755#32 := by decide +kernel
  have h2 : t2 ⟨270520975#32, 2288941602#32, 2047150241#32, 4045142696#32, 1386118400#32, 1227037726#32, 1391578359#32, 1851537676#32⟩ = 1195680448#32 := by decide +kernel
  show step (steps abcM abcV 53) (kL.getD 53 0) (sch abcM 53) = _
  rw [abc_s53, abc_w53]
  unfold step
  rw [h1, h2]
  rfl
theorem abc_s55 : steps abcM abcV 55 = ⟨1053056219#32, 4117770203#32, 270520975#32, 2288941602#32, 3842906959#32, 2672265155#32, 1386118400#32, 1227037726#32⟩ := by
  have h1 : t1 ⟨4117770203#32, 270520975#32, 2288941602#32, 2047150241#32, 2672265155#32, 1386118400#32, 1227037726#32, 1391578359#32⟩ (kL.getD 54 0) 344409900#32 = 1795756718#32 := by decide +kernel
  have h2 : t2 ⟨4117770203#32, 270520975#32, 2288941602#32, 2047150241#32, 2672265155#32, 1386118400#32, 1227037726#32, 1391578359#32⟩ = 3552266797#32 := by decide +kernel
  show step (steps abcM abcV 54) (kL.getD 54 0) (sch abcM 54) = _
  rw [abc_s54, abc_w54]
  unfold step
  rw [h1, h2]
  rfl
theorem abc_s56 : steps abcM abcV 56 = ⟨952932627#32, 1053056219#32, 4117770203#32, 270520975#32, 1422599787#32, 3842906959#32, 2672265155#32, 1386118400#32⟩ := by
  have h1 : t1 ⟨1053056219#32, 4117770203#32, 270520975#32, 2288941602#32, 3842906959#32, 2672265155#32, 1386118400#32, 1227037726#32⟩ (kL.getD 55 0) 2987358873#32 = 3428625481#32 := by decide +kernel
  have h2 : t2 ⟨1053056219#32, 4117770203#32, 270520975#32, 2288941602#32, 3842906959#32, 2672265155#32, 1386118400#32, 1227037726#32⟩ = 1819274442#32 := by decide +kernel
  show step (steps abcM abcV 55) (kL.getD 55 0) (sch abcM 55) = _
  rw [abc_s55, abc_w55]
  unfold step
  rw [h1, h2]
  rfl
theorem abc_s57 : steps abcM abcV 57 = ⟨4241590395#32, 952932627#32, 1053056219#32, 4117770203#32, 2606665836#32, 1422599787#32, 3842906959#32, 2672265155#32⟩ := by
  have h1 : t1 ⟨952932627#32, 1053056219#32, 4117770203#32, 270520975#32, 1422599787#32, 3842906959#32, 2672265155#32, 1386118400#32⟩ (kL.getD 56 0) 4015503821#32 = 2336144861#32 := by decide +kernel
  have h2 : t2 ⟨952932627#32, 1053056219#32, 4117770203#32, 270520975#32, 1422599787#32, 3842906959#32, 2672265155#32, 1386118400#32⟩ = 1905445534#32 := by decide +kernel
  show step (steps abcM abcV 56) (kL.getD 56 0) (sch abcM 56) = _
  rw [abc_s56, abc_w56]
  unfold step
  rw [h1, h2]
  rfl
theorem abc_s58 : steps abcM abcV 58 = ⟨3227702383#32, 4241590395#32, 952932627#32, 1053056219#32, 2118385806#32, 2606665836#32, 1422599787#32, 3842906959#32⟩ := by
  have h1 : t1 ⟨4241590395#32, 952932627#32, 1053056219#32, 4117770203#32, 2606665836#32, 1422599787#32, 3842906959#32, 2672265155#32⟩ (kL.getD 57 0) 3957764664#32 = 2295582899#32 := by decide +kernel
  have h2 : t2 ⟨4241590395#32, 952932627#32, 1053056219#32, 4117770203#32, 2606665836#32, 1422599787#32, 3842906959#32, 2672265155#32⟩ = 932119484#32 := by decide +kernel
  show step (steps abcM abcV 57) (kL.getD 57 0) (sch abcM 57) = _
  rw [abc_s57, abc_w57]
  unfold step
  rw [h1, h2]
  rfl
theorem abc_s59 : steps abcM abcV 59 = ⟨4290184306#32, 3227702383#32, 4241590395#32, 952932627#32, 1837350854#32, 2118385806#32, 2606665836#32, 1422599787#32⟩ := by
  have h1 : t1 ⟨3227702383#32, 4241590395#32, 952932627#32, 1053056219#32, 2118385806#32, 2606665836#32, 1422599787#32, 3842906959#32⟩ (kL.getD 58 0) 2682456414#32 = 784294635#32 := by decide +kernel
  have h2 : t2 ⟨3227702383#32, 4241590395#32, 952932627#32, 1053056219#32, 2118385806#32, 2606665836#32, 1422599787#32, 3842906959#32⟩ = 3505889671#32 := by decide +kernel
  show step (steps abcM abcV 58) (kL.getD 58 0) (sch abcM 58) = _
  rw [abc_s58, abc_w58]
  unfold step
  rw [h1, h2]
  rfl
theorem abc_s60 : steps abcM abcV 60 = ⟨3064893439#32, 4290184306#32, 3227702383#32, 4241590395#32, 2988158269#32, 1837350854#32, 2118385806#32, 2606665836#32⟩ := by
  have h1 : t1 ⟨4290184306#32, 3227702383#32, 4241590395#32, 952932627#32, 1837350854#32, 2118385806#32, 2606665836#32, 1422599787#32⟩ (kL.getD 59 0) 2025622859#32 = 2035225642#32 := by decide +kernel
  have h2 : t2 ⟨4290184306#32, 3227702383#32, 4241590395#32, 952932627#32, 1837350854#32, 2118385806#32, 2606665836#32, 1422599787#32⟩ = 1029667797#32 := by decide +kernel
  show step (steps abcM abcV 59) (kL.getD 59 0) (sch abcM 59) = _
  rw [abc_s59, abc_w59]
  unfold step
  rw [h1, h2]
  rfl
theorem abc_s61 : steps abcM abcV 61 = ⟨3093179625#32, 3064893439#32, 4290184306#32, 3227702383#32, 2518632596#32, 2988158269#32, 1837350854#32, 2118385806#32⟩ := by
  have h1 : t1 ⟨3064893439#32, 4290184306#32, 3227702383#32, 4241590395#32, 2988158269#32, 1837350854#32, 2118385806#32, 2606665836#32⟩ (kL.getD 60 0) 2755645205#32 = 2572009497#32 := by decide +kernel
  have h2 : t2 ⟨3064893439#32, 4290184306#32, 3227702383#32, 4241590395#32, 2988158269#32, 1837350854#32, 2118385806#32, 2606665836#32⟩ = 521170128#32 := by decide +kernel
  show step (steps abcM abcV 60) (kL.getD 60 0) (sch abcM 60) = _
  rw [abc_s60, abc_w60]
  unfold step
  rw [h1, h2]
  rfl
theorem abc_s62 : steps abcM abcV 62 = ⟨80891244#32, 3093179625#32, 3064893439#32, 4290184306#32, 2492278198#32, 2518632596#32, 2988158269#32, 1837350854#32⟩ := by
  have h1 : t1 ⟨3093179625#32, 3064893439#32, 4290184306#32, 3227702383#32, 2518632596#32, 2988158269#32, 1837350854#32, 2118385806#32⟩ (kL.getD 61 0) 1720397816#32 = 3559543111#32 := by decide +kernel
  have h2 : t2 ⟨3093179625#32, 3064893439#32, 4290184306#32, 3227702383#32, 2518632596#32, 2988158269#32, 1837350854#32, 2118385806#32⟩ = 816315429#32 := by decide +kernel
  show step (steps abcM abcV 61) (kL.getD 61 0) (sch abcM 61) = _
  rw [abc_s61, abc_w61]
  unfold step
  rw [h1, h2]
  rfl
theorem abc_s63 : steps abcM abcV 63 = ⟨3550093669#32, 80891244#32, 3093179625#32, 3064893439#32, 4212265488#32, 2492278198#32, 2518632596#32, 2988158269#32⟩ := by
  have h1 : t1 ⟨80891244#32, 3093179625#32, 3064893439#32, 4290184306#32, 2492278198#32, 2518632596#32, 2988158269#32, 1837350854#32⟩ (kL.getD 62 0) 4004225740#32 = 4217048478#32 := by decide +kernel
  have h2 : t2 ⟨80891244#32, 3093179625#32, 3064893439#32, 4290184306#32, 2492278198#32, 2518632596#32, 2988158269#32, 1837350854#32⟩ = 3628012487#32 := by decide +kernel
  show step (steps abcM abcV 62) (kL.getD 62 0) (sch abcM 62) = _
  rw [abc_s62, abc_w62]
  unfold step
  rw [h1, h2]
  rfl
theorem abc_s64 : steps abcM abcV 64 = ⟨1349398616#32, 3550093669#32, 80891244#32, 3093179625#32, 1593118500#32, 4212265488#32, 2492278198#32, 2518632596#32⟩ := by
  have h1 : t1 ⟨3550093669#32, 80891244#32, 3093179625#32, 3064893439#32, 4212265488#32, 2492278198#32, 2518632596#32, 2988158269#32⟩ (kL.getD 63 0) 313650667#32 = 2823192357#32 := by decide +kernel
  have h2 : t2 ⟨3550093669#32, 80891244#32, 3093179625#32, 3064893439#32, 4212265488#32, 2492278198#32, 2518632596#32, 2988158269#32⟩ = 2821173555#32 := by decide +kernel
  show step (steps abcM abcV 63) (kL.getD 63 0) (sch abcM 63) = _
  rw [abc_s63, abc_w63]
  unfold step
  rw [h1, h2]
  rfl
theorem abc_run : run (pad abcL) 1 = ⟨3128432319#32, 2399260650#32, 1094795486#32, 1571693091#32, 2953011619#32, 2518121116#32, 3021012833#32, 4060091821#32⟩ := by
  rw [abc_pad]
  show add8 abcV (steps abcM abcV 64) = _
  rw [abc_s64]
  rfl
theorem abc_top : top (sum abcL) 8 = 13436514500253700074#64 := by
  have e : sum abcL = out ⟨3128432319#32, 2399260650#32, 1094795486#32, 1571693091#32, 2953011619#32, 2518121116#32, 3021012833#32, 4060091821#32⟩ := by
    unfold sum
    rw [show (pad abcL).length / 64 = 1 by rw [abc_pad]; rfl, abc_run]
  rw [e]
  decide +kernel
end Go.Proofs.YtcedecljbgailaaDoor.Dg
