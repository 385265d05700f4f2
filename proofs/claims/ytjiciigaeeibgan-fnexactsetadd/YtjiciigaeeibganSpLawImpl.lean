/- What the laws over sets share. No statement of the seat is proved here. -/
import Derived.Test.YtjiciigaeeibganSpVar
import Derived.Test.YtjiciigaeeibganSpImpl
