/-
  The document's Same tells whether bytes are the same; its Copy hands back bytes of its own: both in Bytes.
-/
import Derived.Test.YtkjndgnjilfobaaRefPut
import Derived.Test.YtkjndgnjilfobaaBytes
