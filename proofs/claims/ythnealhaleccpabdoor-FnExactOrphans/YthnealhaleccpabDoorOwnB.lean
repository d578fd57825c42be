/-
  Rows that stand while others are written: at a seat with disks the disk's texts have them.
-/
import Derived.Test.YthnealhaleccpabDoorMarkDisk
import Derived.Test.YthnealhaleccpabDoorFilesApp
