/- A closed call by records: the contracts. A closed call by records: part 0. A closed call by records: part 1. A closed call by records: part 2. A closed call by records: part 3. A closed call by records: part 4. A closed call by records: part 5. A closed call by records: together. -/
import Derived.Test.YtmkkmjpbeokibaaGreatDoorPb12
import Derived.Test.YtmkkmjpbeokibaaGreatDoorPb13
import Derived.Test.YtmkkmjpbeokibaaGreatDoorPb14
section
namespace Go.Proofs.YtmkkmjpbeokibaaGreatDoor.Ca
open Go Go.Proofs.YtmkkmjpbeokibaaGreatDoor.Sx Go.RowKit
def ClF0 : FuncId := 60
def ClF1 : FuncId := 27
def ClF2 : FuncId := 62
def ClF3 : FuncId := 28
noncomputable def ClC0 : List Ctr := liftsG.calls
noncomputable def ClC1 : List Ctr := ClC0 ++ [ctrRec ClF0 [ClR0]]
noncomputable def ClC2 : List Ctr := ClC1 ++ [ctrRec ClF1 [ClR1]]
noncomputable def ClC3 : List Ctr := ClC2 ++ [ctrRec ClF2 [ClR2, ClR4, ClR6, ClR8, ClR10, ClR12, ClR14, ClR16, ClR18, ClR20, ClR22, ClR24, ClR26, ClR28, ClR30, ClR32, ClR34, ClR36, ClR38, ClR40, ClR42, ClR44, ClR46, ClR48, ClR50, ClR52, ClR54, ClR56, ClR58, ClR60, ClR62, ClR64, ClR66, ClR68, ClR70, ClR72, ClR74, ClR76, ClR78, ClR80, ClR82, ClR84, ClR86, ClR88, ClR90, ClR92, ClR94, ClR96]]
noncomputable def ClC4 : List Ctr := ClC3 ++ [ctrRec ClF3 [ClR3, ClR5, ClR7, ClR9, ClR11, ClR13, ClR15, ClR17, ClR19, ClR21, ClR23, ClR25, ClR27, ClR29, ClR31, ClR33, ClR35, ClR37, ClR39, ClR41, ClR43, ClR45, ClR47, ClR49, ClR51, ClR53, ClR55, ClR57, ClR59, ClR61, ClR63, ClR65, ClR67, ClR69, ClR71, ClR73, ClR75, ClR77, ClR79, ClR81, ClR83, ClR85, ClR87, ClR89, ClR91, ClR93, ClR95, ClR97]]
end Go.Proofs.YtmkkmjpbeokibaaGreatDoor.Ca
end
section
namespace Go.Proofs.YtmkkmjpbeokibaaGreatDoor.Ca
open Go Go.Proofs.YtmkkmjpbeokibaaGreatDoor.Sx Go.RowKit
set_option maxRecDepth 100000 in
set_option maxHeartbeats 4000000 in
theorem ClT1 : RecOk Tryz.prog ClC1 ClF1 ClR1 := rec_run 2000 (by kernel_rfl)
set_option maxRecDepth 100000 in
set_option maxHeartbeats 4000000 in
theorem ClT2 : RecOk Tryz.prog ClC2 ClF2 ClR2 := rec_run 2000 (by kernel_rfl)
set_option maxRecDepth 100000 in
set_option maxHeartbeats 4000000 in
theorem ClT3 : RecOk Tryz.prog ClC3 ClF3 ClR3 := rec_run 2000 (by kernel_rfl)
set_option maxRecDepth 100000 in
set_option maxHeartbeats 4000000 in
theorem ClT9 : RecOk Tryz.prog ClC3 ClF3 ClR9 := rec_run 2000 (by kernel_rfl)
set_option maxRecDepth 100000 in
set_option maxHeartbeats 4000000 in
theorem ClT19 : RecOk Tryz.prog ClC3 ClF3 ClR19 := rec_run 2000 (by kernel_rfl)
set_option maxRecDepth 100000 in
set_option maxHeartbeats 4000000 in
theorem ClT22 : RecOk Tryz.prog ClC2 ClF2 ClR22 := rec_run 2000 (by kernel_rfl)
set_option maxRecDepth 100000 in
set_option maxHeartbeats 4000000 in
theorem ClT25 : RecOk Tryz.prog ClC3 ClF3 ClR25 := rec_run 2000 (by kernel_rfl)
set_option maxRecDepth 100000 in
set_option maxHeartbeats 4000000 in
theorem ClT30 : RecOk Tryz.prog ClC2 ClF2 ClR30 := rec_run 2000 (by kernel_rfl)
set_option maxRecDepth 100000 in
set_option maxHeartbeats 4000000 in
theorem ClT45 : RecOk Tryz.prog ClC3 ClF3 ClR45 := rec_run 2000 (by kernel_rfl)
set_option maxRecDepth 100000 in
set_option maxHeartbeats 4000000 in
theorem ClT48 : RecOk Tryz.prog ClC2 ClF2 ClR48 := rec_run 2000 (by kernel_rfl)
set_option maxRecDepth 100000 in
set_option maxHeartbeats 4000000 in
theorem ClT53 : RecOk Tryz.prog ClC3 ClF3 ClR53 := rec_run 2000 (by kernel_rfl)
set_option maxRecDepth 100000 in
set_option maxHeartbeats 4000000 in
theorem ClT56 : RecOk Tryz.prog ClC2 ClF2 ClR56 := rec_run 2000 (by kernel_rfl)
set_option maxRecDepth 100000 in
set_option maxHeartbeats 4000000 in
theorem ClT58 : RecOk Tryz.prog ClC2 ClF2 ClR58 := rec_run 2000 (by kernel_rfl)
set_option maxRecDepth 100000 in
set_option maxHeartbeats 4000000 in
theorem ClT71 : RecOk Tryz.prog ClC3 ClF3 ClR71 := rec_run 2000 (by kernel_rfl)
set_option maxRecDepth 100000 in
set_option maxHeartbeats 4000000 in
theorem ClT79 : RecOk Tryz.prog ClC3 ClF3 ClR79 := rec_run 2000 (by kernel_rfl)
set_option maxRecDepth 100000 in
set_option maxHeartbeats 4000000 in
theorem ClT84 : RecOk Tryz.prog ClC2 ClF2 ClR84 := rec_run 2000 (by kernel_rfl)
set_option maxRecDepth 100000 in
set_option maxHeartbeats 4000000 in
theorem ClT90 : RecOk Tryz.prog ClC2 ClF2 ClR90 := rec_run 2000 (by kernel_rfl)
end Go.Proofs.YtmkkmjpbeokibaaGreatDoor.Ca
end
section
namespace Go.Proofs.YtmkkmjpbeokibaaGreatDoor.Ca
open Go Go.Proofs.YtmkkmjpbeokibaaGreatDoor.Sx Go.RowKit
set_option maxRecDepth 100000 in
set_option maxHeartbeats 4000000 in
theorem ClT10 : RecOk Tryz.prog ClC2 ClF2 ClR10 := rec_run 2000 (by kernel_rfl)
set_option maxRecDepth 100000 in
set_option maxHeartbeats 4000000 in
theorem ClT13 : RecOk Tryz.prog ClC3 ClF3 ClR13 := rec_run 2000 (by kernel_rfl)
set_option maxRecDepth 100000 in
set_option maxHeartbeats 4000000 in
theorem ClT16 : RecOk Tryz.prog ClC2 ClF2 ClR16 := rec_run 2000 (by kernel_rfl)
set_option maxRecDepth 100000 in
set_option maxHeartbeats 4000000 in
theorem ClT17 : RecOk Tryz.prog ClC3 ClF3 ClR17 := rec_run 2000 (by kernel_rfl)
set_option maxRecDepth 100000 in
set_option maxHeartbeats 4000000 in
theorem ClT21 : RecOk Tryz.prog ClC3 ClF3 ClR21 := rec_run 2000 (by kernel_rfl)
set_option maxRecDepth 100000 in
set_option maxHeartbeats 4000000 in
theorem ClT26 : RecOk Tryz.prog ClC2 ClF2 ClR26 := rec_run 2000 (by kernel_rfl)
set_option maxRecDepth 100000 in
set_option maxHeartbeats 4000000 in
theorem ClT29 : RecOk Tryz.prog ClC3 ClF3 ClR29 := rec_run 2000 (by kernel_rfl)
set_option maxRecDepth 100000 in
set_option maxHeartbeats 4000000 in
theorem ClT36 : RecOk Tryz.prog ClC2 ClF2 ClR36 := rec_run 2000 (by kernel_rfl)
set_option maxRecDepth 100000 in
set_option maxHeartbeats 4000000 in
theorem ClT47 : RecOk Tryz.prog ClC3 ClF3 ClR47 := rec_run 2000 (by kernel_rfl)
set_option maxRecDepth 100000 in
set_option maxHeartbeats 4000000 in
theorem ClT55 : RecOk Tryz.prog ClC3 ClF3 ClR55 := rec_run 2000 (by kernel_rfl)
set_option maxRecDepth 100000 in
set_option maxHeartbeats 4000000 in
theorem ClT60 : RecOk Tryz.prog ClC2 ClF2 ClR60 := rec_run 2000 (by kernel_rfl)
set_option maxRecDepth 100000 in
set_option maxHeartbeats 4000000 in
theorem ClT64 : RecOk Tryz.prog ClC2 ClF2 ClR64 := rec_run 2000 (by kernel_rfl)
set_option maxRecDepth 100000 in
set_option maxHeartbeats 4000000 in
theorem ClT66 : RecOk Tryz.prog ClC2 ClF2 ClR66 := rec_run 2000 (by kernel_rfl)
set_option maxRecDepth 100000 in
set_option maxHeartbeats 4000000 in
theorem ClT75 : RecOk Tryz.prog ClC3 ClF3 ClR75 := rec_run 2000 (by kernel_rfl)
set_option maxRecDepth 100000 in
set_option maxHeartbeats 4000000 in
theorem ClT89 : RecOk Tryz.prog ClC3 ClF3 ClR89 := rec_run 2000 (by kernel_rfl)
set_option maxRecDepth 100000 in
set_option maxHeartbeats 4000000 in
theorem ClT95 : RecOk Tryz.prog ClC3 ClF3 ClR95 := rec_run 2000 (by kernel_rfl)
set_option maxRecDepth 100000 in
set_option maxHeartbeats 4000000 in
theorem ClT96 : RecOk Tryz.prog ClC2 ClF2 ClR96 := rec_run 2000 (by kernel_rfl)
end Go.Proofs.YtmkkmjpbeokibaaGreatDoor.Ca
end
section
namespace Go.Proofs.YtmkkmjpbeokibaaGreatDoor.Ca
open Go Go.Proofs.YtmkkmjpbeokibaaGreatDoor.Sx Go.RowKit
set_option maxRecDepth 100000 in
set_option maxHeartbeats 4000000 in
theorem ClT0 : RecOk Tryz.prog ClC0 ClF0 ClR0 := rec_run 2000 (by kernel_rfl)
set_option maxRecDepth 100000 in
set_option maxHeartbeats 4000000 in
theorem ClT4 : RecOk Tryz.prog ClC2 ClF2 ClR4 := rec_run 2000 (by kernel_rfl)
set_option maxRecDepth 100000 in
set_option maxHeartbeats 4000000 in
theorem ClT7 : RecOk Tryz.prog ClC3 ClF3 ClR7 := rec_run 2000 (by kernel_rfl)
set_option maxRecDepth 100000 in
set_option maxHeartbeats 4000000 in
theorem ClT14 : RecOk Tryz.prog ClC2 ClF2 ClR14 := rec_run 2000 (by kernel_rfl)
set_option maxRecDepth 100000 in
set_option maxHeartbeats 4000000 in
theorem ClT23 : RecOk Tryz.prog ClC3 ClF3 ClR23 := rec_run 2000 (by kernel_rfl)
set_option maxRecDepth 100000 in
set_option maxHeartbeats 4000000 in
theorem ClT31 : RecOk Tryz.prog ClC3 ClF3 ClR31 := rec_run 2000 (by kernel_rfl)
set_option maxRecDepth 100000 in
set_option maxHeartbeats 4000000 in
theorem ClT32 : RecOk Tryz.prog ClC2 ClF2 ClR32 := rec_run 2000 (by kernel_rfl)
set_option maxRecDepth 100000 in
set_option maxHeartbeats 4000000 in
theorem ClT34 : RecOk Tryz.prog ClC2 ClF2 ClR34 := rec_run 2000 (by kernel_rfl)
set_option maxRecDepth 100000 in
set_option maxHeartbeats 4000000 in
theorem ClT38 : RecOk Tryz.prog ClC2 ClF2 ClR38 := rec_run 2000 (by kernel_rfl)
set_option maxRecDepth 100000 in
set_option maxHeartbeats 4000000 in
theorem ClT49 : RecOk Tryz.prog ClC3 ClF3 ClR49 := rec_run 2000 (by kernel_rfl)
set_option maxRecDepth 100000 in
set_option maxHeartbeats 4000000 in
theorem ClT57 : RecOk Tryz.prog ClC3 ClF3 ClR57 := rec_run 2000 (by kernel_rfl)
set_option maxRecDepth 100000 in
set_option maxHeartbeats 4000000 in
theorem ClT59 : RecOk Tryz.prog ClC3 ClF3 ClR59 := rec_run 2000 (by kernel_rfl)
set_option maxRecDepth 100000 in
set_option maxHeartbeats 4000000 in
theorem ClT62 : RecOk Tryz.prog ClC2 ClF2 ClR62 := rec_run 2000 (by kernel_rfl)
set_option maxRecDepth 100000 in
set_option maxHeartbeats 4000000 in
theorem ClT72 : RecOk Tryz.prog ClC2 ClF2 ClR72 := rec_run 2000 (by kernel_rfl)
set_option maxRecDepth 100000 in
set_option maxHeartbeats 4000000 in
theorem ClT86 : RecOk Tryz.prog ClC2 ClF2 ClR86 := rec_run 2000 (by kernel_rfl)
set_option maxRecDepth 100000 in
set_option maxHeartbeats 4000000 in
theorem ClT94 : RecOk Tryz.prog ClC2 ClF2 ClR94 := rec_run 2000 (by kernel_rfl)
end Go.Proofs.YtmkkmjpbeokibaaGreatDoor.Ca
end
section
namespace Go.Proofs.YtmkkmjpbeokibaaGreatDoor.Ca
open Go Go.Proofs.YtmkkmjpbeokibaaGreatDoor.Sx Go.RowKit
set_option maxRecDepth 100000 in
set_option maxHeartbeats 4000000 in
theorem ClT8 : RecOk Tryz.prog ClC2 ClF2 ClR8 := rec_run 2000 (by kernel_rfl)
set_option maxRecDepth 100000 in
set_option maxHeartbeats 4000000 in
theorem ClT15 : RecOk Tryz.prog ClC3 ClF3 ClR15 := rec_run 2000 (by kernel_rfl)
set_option maxRecDepth 100000 in
set_option maxHeartbeats 4000000 in
theorem ClT27 : RecOk Tryz.prog ClC3 ClF3 ClR27 := rec_run 2000 (by kernel_rfl)
set_option maxRecDepth 100000 in
set_option maxHeartbeats 4000000 in
theorem ClT37 : RecOk Tryz.prog ClC3 ClF3 ClR37 := rec_run 2000 (by kernel_rfl)
set_option maxRecDepth 100000 in
set_option maxHeartbeats 4000000 in
theorem ClT40 : RecOk Tryz.prog ClC2 ClF2 ClR40 := rec_run 2000 (by kernel_rfl)
set_option maxRecDepth 100000 in
set_option maxHeartbeats 4000000 in
theorem ClT42 : RecOk Tryz.prog ClC2 ClF2 ClR42 := rec_run 2000 (by kernel_rfl)
set_option maxRecDepth 100000 in
set_option maxHeartbeats 4000000 in
theorem ClT50 : RecOk Tryz.prog ClC2 ClF2 ClR50 := rec_run 2000 (by kernel_rfl)
set_option maxRecDepth 100000 in
set_option maxHeartbeats 4000000 in
theorem ClT61 : RecOk Tryz.prog ClC3 ClF3 ClR61 := rec_run 2000 (by kernel_rfl)
set_option maxRecDepth 100000 in
set_option maxHeartbeats 4000000 in
theorem ClT65 : RecOk Tryz.prog ClC3 ClF3 ClR65 := rec_run 2000 (by kernel_rfl)
set_option maxRecDepth 100000 in
set_option maxHeartbeats 4000000 in
theorem ClT67 : RecOk Tryz.prog ClC3 ClF3 ClR67 := rec_run 2000 (by kernel_rfl)
set_option maxRecDepth 100000 in
set_option maxHeartbeats 4000000 in
theorem ClT68 : RecOk Tryz.prog ClC2 ClF2 ClR68 := rec_run 2000 (by kernel_rfl)
set_option maxRecDepth 100000 in
set_option maxHeartbeats 4000000 in
theorem ClT76 : RecOk Tryz.prog ClC2 ClF2 ClR76 := rec_run 2000 (by kernel_rfl)
set_option maxRecDepth 100000 in
set_option maxHeartbeats 4000000 in
theorem ClT82 : RecOk Tryz.prog ClC2 ClF2 ClR82 := rec_run 2000 (by kernel_rfl)
set_option maxRecDepth 100000 in
set_option maxHeartbeats 4000000 in
theorem ClT85 : RecOk Tryz.prog ClC3 ClF3 ClR85 := rec_run 2000 (by kernel_rfl)
set_option maxRecDepth 100000 in
set_option maxHeartbeats 4000000 in
theorem ClT91 : RecOk Tryz.prog ClC3 ClF3 ClR91 := rec_run 2000 (by kernel_rfl)
set_option maxRecDepth 100000 in
set_option maxHeartbeats 4000000 in
theorem ClT97 : RecOk Tryz.prog ClC3 ClF3 ClR97 := rec_run 2000 (by kernel_rfl)
end Go.Proofs.YtmkkmjpbeokibaaGreatDoor.Ca
end
section
namespace Go.Proofs.YtmkkmjpbeokibaaGreatDoor.Ca
open Go Go.Proofs.YtmkkmjpbeokibaaGreatDoor.Sx Go.RowKit
set_option maxRecDepth 100000 in
set_option maxHeartbeats 4000000 in
theorem ClT5 : RecOk Tryz.prog ClC3 ClF3 ClR5 := rec_run 2000 (by kernel_rfl)
set_option maxRecDepth 100000 in
set_option maxHeartbeats 4000000 in
theorem ClT11 : RecOk Tryz.prog ClC3 ClF3 ClR11 := rec_run 2000 (by kernel_rfl)
set_option maxRecDepth 100000 in
set_option maxHeartbeats 4000000 in
theorem ClT12 : RecOk Tryz.prog ClC2 ClF2 ClR12 := rec_run 2000 (by kernel_rfl)
set_option maxRecDepth 100000 in
set_option maxHeartbeats 4000000 in
theorem ClT18 : RecOk Tryz.prog ClC2 ClF2 ClR18 := rec_run 2000 (by kernel_rfl)
set_option maxRecDepth 100000 in
set_option maxHeartbeats 4000000 in
theorem ClT24 : RecOk Tryz.prog ClC2 ClF2 ClR24 := rec_run 2000 (by kernel_rfl)
set_option maxRecDepth 100000 in
set_option maxHeartbeats 4000000 in
theorem ClT33 : RecOk Tryz.prog ClC3 ClF3 ClR33 := rec_run 2000 (by kernel_rfl)
set_option maxRecDepth 100000 in
set_option maxHeartbeats 4000000 in
theorem ClT35 : RecOk Tryz.prog ClC3 ClF3 ClR35 := rec_run 2000 (by kernel_rfl)
set_option maxRecDepth 100000 in
set_option maxHeartbeats 4000000 in
theorem ClT39 : RecOk Tryz.prog ClC3 ClF3 ClR39 := rec_run 2000 (by kernel_rfl)
set_option maxRecDepth 100000 in
set_option maxHeartbeats 4000000 in
theorem ClT44 : RecOk Tryz.prog ClC2 ClF2 ClR44 := rec_run 2000 (by kernel_rfl)
set_option maxRecDepth 100000 in
set_option maxHeartbeats 4000000 in
theorem ClT52 : RecOk Tryz.prog ClC2 ClF2 ClR52 := rec_run 2000 (by kernel_rfl)
set_option maxRecDepth 100000 in
set_option maxHeartbeats 4000000 in
theorem ClT63 : RecOk Tryz.prog ClC3 ClF3 ClR63 := rec_run 2000 (by kernel_rfl)
set_option maxRecDepth 100000 in
set_option maxHeartbeats 4000000 in
theorem ClT70 : RecOk Tryz.prog ClC2 ClF2 ClR70 := rec_run 2000 (by kernel_rfl)
set_option maxRecDepth 100000 in
set_option maxHeartbeats 4000000 in
theorem ClT73 : RecOk Tryz.prog ClC3 ClF3 ClR73 := rec_run 2000 (by kernel_rfl)
set_option maxRecDepth 100000 in
set_option maxHeartbeats 4000000 in
theorem ClT78 : RecOk Tryz.prog ClC2 ClF2 ClR78 := rec_run 2000 (by kernel_rfl)
set_option maxRecDepth 100000 in
set_option maxHeartbeats 4000000 in
theorem ClT88 : RecOk Tryz.prog ClC2 ClF2 ClR88 := rec_run 2000 (by kernel_rfl)
set_option maxRecDepth 100000 in
set_option maxHeartbeats 4000000 in
theorem ClT92 : RecOk Tryz.prog ClC2 ClF2 ClR92 := rec_run 2000 (by kernel_rfl)
end Go.Proofs.YtmkkmjpbeokibaaGreatDoor.Ca
end
section
namespace Go.Proofs.YtmkkmjpbeokibaaGreatDoor.Ca
open Go Go.Proofs.YtmkkmjpbeokibaaGreatDoor.Sx Go.RowKit
set_option maxRecDepth 100000 in
set_option maxHeartbeats 4000000 in
theorem ClT6 : RecOk Tryz.prog ClC2 ClF2 ClR6 := rec_run 2000 (by kernel_rfl)
set_option maxRecDepth 100000 in
set_option maxHeartbeats 4000000 in
theorem ClT20 : RecOk Tryz.prog ClC2 ClF2 ClR20 := rec_run 2000 (by kernel_rfl)
set_option maxRecDepth 100000 in
set_option maxHeartbeats 4000000 in
theorem ClT28 : RecOk Tryz.prog ClC2 ClF2 ClR28 := rec_run 2000 (by kernel_rfl)
set_option maxRecDepth 100000 in
set_option maxHeartbeats 4000000 in
theorem ClT41 : RecOk Tryz.prog ClC3 ClF3 ClR41 := rec_run 2000 (by kernel_rfl)
set_option maxRecDepth 100000 in
set_option maxHeartbeats 4000000 in
theorem ClT43 : RecOk Tryz.prog ClC3 ClF3 ClR43 := rec_run 2000 (by kernel_rfl)
set_option maxRecDepth 100000 in
set_option maxHeartbeats 4000000 in
theorem ClT46 : RecOk Tryz.prog ClC2 ClF2 ClR46 := rec_run 2000 (by kernel_rfl)
set_option maxRecDepth 100000 in
set_option maxHeartbeats 4000000 in
theorem ClT51 : RecOk Tryz.prog ClC3 ClF3 ClR51 := rec_run 2000 (by kernel_rfl)
set_option maxRecDepth 100000 in
set_option maxHeartbeats 4000000 in
theorem ClT54 : RecOk Tryz.prog ClC2 ClF2 ClR54 := rec_run 2000 (by kernel_rfl)
set_option maxRecDepth 100000 in
set_option maxHeartbeats 4000000 in
theorem ClT69 : RecOk Tryz.prog ClC3 ClF3 ClR69 := rec_run 2000 (by kernel_rfl)
set_option maxRecDepth 100000 in
set_option maxHeartbeats 4000000 in
theorem ClT74 : RecOk Tryz.prog ClC2 ClF2 ClR74 := rec_run 2000 (by kernel_rfl)
set_option maxRecDepth 100000 in
set_option maxHeartbeats 4000000 in
theorem ClT77 : RecOk Tryz.prog ClC3 ClF3 ClR77 := rec_run 2000 (by kernel_rfl)
set_option maxRecDepth 100000 in
set_option maxHeartbeats 4000000 in
theorem ClT80 : RecOk Tryz.prog ClC2 ClF2 ClR80 := rec_run 2000 (by kernel_rfl)
set_option maxRecDepth 100000 in
set_option maxHeartbeats 4000000 in
theorem ClT81 : RecOk Tryz.prog ClC3 ClF3 ClR81 := rec_run 2000 (by kernel_rfl)
set_option maxRecDepth 100000 in
set_option maxHeartbeats 4000000 in
theorem ClT83 : RecOk Tryz.prog ClC3 ClF3 ClR83 := rec_run 2000 (by kernel_rfl)
set_option maxRecDepth 100000 in
set_option maxHeartbeats 4000000 in
theorem ClT87 : RecOk Tryz.prog ClC3 ClF3 ClR87 := rec_run 2000 (by kernel_rfl)
set_option maxRecDepth 100000 in
set_option maxHeartbeats 4000000 in
theorem ClT93 : RecOk Tryz.prog ClC3 ClF3 ClR93 := rec_run 2000 (by kernel_rfl)
end Go.Proofs.YtmkkmjpbeokibaaGreatDoor.Ca
end
section
namespace Go.Proofs.YtmkkmjpbeokibaaGreatDoor.Ca
open Go Go.Proofs.YtmkkmjpbeokibaaGreatDoor.Sx Go.RowKit
theorem ClOk0 {TT : Tb} (h : ∀ q ∈ ClC0, CtrOk TT Tryz.prog q) : ∀ q ∈ ClC0, CtrOk TT Tryz.prog q := h
theorem ClOk1 {TT : Tb} (h : ∀ q ∈ ClC0, CtrOk TT Tryz.prog q) : ∀ q ∈ ClC1, CtrOk TT Tryz.prog q := fun q hq => by
  rcases List.mem_append.1 hq with hq | hq
  · exact ClOk0 h q hq
  · obtain rfl := List.mem_singleton.1 hq
    refine ctrRec_ok (ClOk0 h) ?_
    intro r hr
    simp only [List.mem_cons, List.not_mem_nil, or_false] at hr
    rcases hr with rfl
    exact ClT0
theorem ClOk2 {TT : Tb} (h : ∀ q ∈ ClC0, CtrOk TT Tryz.prog q) : ∀ q ∈ ClC2, CtrOk TT Tryz.prog q := fun q hq => by
  rcases List.mem_append.1 hq with hq | hq
  · exact ClOk1 h q hq
  · obtain rfl := List.mem_singleton.1 hq
    refine ctrRec_ok (ClOk1 h) ?_
    intro r hr
    simp only [List.mem_cons, List.not_mem_nil, or_false] at hr
    rcases hr with rfl
    exact ClT1
theorem ClOk3 {TT : Tb} (h : ∀ q ∈ ClC0, CtrOk TT Tryz.prog q) : ∀ q ∈ ClC3, CtrOk TT Tryz.prog q := fun q hq => by
  rcases List.mem_append.1 hq with hq | hq
  · exact ClOk2 h q hq
  · obtain rfl := List.mem_singleton.1 hq
    refine ctrRec_ok (ClOk2 h) ?_
    intro r hr
    simp only [List.mem_cons, List.not_mem_nil, or_false] at hr
    rcases hr with rfl | rfl | rfl | rfl | rfl | rfl | rfl | rfl | rfl | rfl | rfl | rfl | rfl | rfl | rfl | rfl | rfl | rfl | rfl | rfl | rfl | rfl | rfl | rfl | rfl | rfl | rfl | rfl | rfl | rfl | rfl | rfl | rfl | rfl | rfl | rfl | rfl | rfl | rfl | rfl | rfl | rfl | rfl | rfl | rfl | rfl | rfl | rfl
    · exact ClT2
    · exact ClT4
    · exact ClT6
    · exact ClT8
    · exact ClT10
    · exact ClT12
    · exact ClT14
    · exact ClT16
    · exact ClT18
    · exact ClT20
    · exact ClT22
    · exact ClT24
    · exact ClT26
    · exact ClT28
    · exact ClT30
    · exact ClT32
    · exact ClT34
    · exact ClT36
    · exact ClT38
    · exact ClT40
    · exact ClT42
    · exact ClT44
    · exact ClT46
    · exact ClT48
    · exact ClT50
    · exact ClT52
    · exact ClT54
    · exact ClT56
    · exact ClT58
    · exact ClT60
    · exact ClT62
    · exact ClT64
    · exact ClT66
    · exact ClT68
    · exact ClT70
    · exact ClT72
    · exact ClT74
    · exact ClT76
    · exact ClT78
    · exact ClT80
    · exact ClT82
    · exact ClT84
    · exact ClT86
    · exact ClT88
    · exact ClT90
    · exact ClT92
    · exact ClT94
    · exact ClT96
theorem ClOk4 {TT : Tb} (h : ∀ q ∈ ClC0, CtrOk TT Tryz.prog q) : ∀ q ∈ ClC4, CtrOk TT Tryz.prog q := fun q hq => by
  rcases List.mem_append.1 hq with hq | hq
  · exact ClOk3 h q hq
  · obtain rfl := List.mem_singleton.1 hq
    refine ctrRec_ok (ClOk3 h) ?_
    intro r hr
    simp only [List.mem_cons, List.not_mem_nil, or_false] at hr
    rcases hr with rfl | rfl | rfl | rfl | rfl | rfl | rfl | rfl | rfl | rfl | rfl | rfl | rfl | rfl | rfl | rfl | rfl | rfl | rfl | rfl | rfl | rfl | rfl | rfl | rfl | rfl | rfl | rfl | rfl | rfl | rfl | rfl | rfl | rfl | rfl | rfl | rfl | rfl | rfl | rfl | rfl | rfl | rfl | rfl | rfl | rfl | rfl | rfl
    · exact ClT3
    · exact ClT5
    · exact ClT7
    · exact ClT9
    · exact ClT11
    · exact ClT13
    · exact ClT15
    · exact ClT17
    · exact ClT19
    · exact ClT21
    · exact ClT23
    · exact ClT25
    · exact ClT27
    · exact ClT29
    · exact ClT31
    · exact ClT33
    · exact ClT35
    · exact ClT37
    · exact ClT39
    · exact ClT41
    · exact ClT43
    · exact ClT45
    · exact ClT47
    · exact ClT49
    · exact ClT51
    · exact ClT53
    · exact ClT55
    · exact ClT57
    · exact ClT59
    · exact ClT61
    · exact ClT63
    · exact ClT65
    · exact ClT67
    · exact ClT69
    · exact ClT71
    · exact ClT73
    · exact ClT75
    · exact ClT77
    · exact ClT79
    · exact ClT81
    · exact ClT83
    · exact ClT85
    · exact ClT87
    · exact ClT89
    · exact ClT91
    · exact ClT93
    · exact ClT95
    · exact ClT97
end Go.Proofs.YtmkkmjpbeokibaaGreatDoor.Ca
end
